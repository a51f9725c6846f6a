package chunk_test

import (
	"math"
	"testing"

	"teasel/api"
	"teasel/chunk"
)

func mustCut(t *testing.T, id int, data []byte, size int) []chunk.Piece {
	t.Helper()
	l, err := chunk.Cut(id, data, size)
	wantNone(t, err)
	return l
}

func TestP1001Pieces(t *testing.T) {
	for n := range 70 {
		for size := 1; size < 80; size++ {
			l := mustCut(t, n, drawn(n), size)
			wantPieces(t, l, n, drawn(n), size)
			if want := max(1, (n+size-1)/size); len(l) != want {
				t.Errorf("%d bytes by %d: %d pieces; want %d", n, size, len(l), want)
			}
		}
	}
}

// TestP1001Known has a sum that is known from elsewhere.
func TestP1001Known(t *testing.T) {
	l := mustCut(t, 7, []byte("123456789"), 4)
	want := []chunk.Piece{
		{Id: 7, At: 0, Total: 9, Sum: 0xE3069283, Data: []byte("1234")},
		{Id: 7, At: 4, Total: 9, Sum: 0xE3069283, Data: []byte("5678")},
		{Id: 7, At: 8, Total: 9, Sum: 0xE3069283, Data: []byte("9")},
	}
	if len(l) != len(want) {
		t.Fatalf("%v; want %v", l, want)
	}
	for i, p := range l {
		if !isSame(p, want[i]) {
			t.Errorf("%d: %v; want %v", i, p, want[i])
		}
	}
}

func TestP1001NoData(t *testing.T) {
	for _, data := range [][]byte{nil, {}} {
		for _, size := range []int{1, 2, 1 << 16} {
			l := mustCut(t, 3, data, size)
			if len(l) != 1 || !isSame(l[0], chunk.Piece{Id: 3}) {
				t.Errorf("%v", l)
			}
		}
	}
}

func TestP1001Bounds(t *testing.T) {
	most := drawn(1 << 20)
	for _, size := range []int{1, 7, 1<<16 - 1, 1 << 16} {
		wantPieces(t, mustCut(t, 0, most, size), 0, most, size)
	}
	for _, id := range []int{0, 1, 1 << 62, math.MaxInt} {
		wantPieces(t, mustCut(t, id, most[:9], 4), id, most[:9], 4)
	}
	if l := mustCut(t, 0, most, 1<<16); len(l) != 16 {
		t.Errorf("%d pieces", len(l))
	}
}

func wantNotCut(t *testing.T, id int, data []byte, size int, e api.Errno) {
	t.Helper()
	l, err := chunk.Cut(id, data, size)
	if len(l) != 0 {
		t.Errorf("%d pieces beside %v", len(l), err)
	}
	wantBroken(t, err, id, e)
}

func TestP1001Wrong(t *testing.T) {
	long := make([]byte, 1<<20+1)
	for _, v := range belowNone() {
		for _, data := range [][]byte{nil, {1}, long} {
			wantNotCut(t, v, data, 1, api.ErrArg)
			wantNotCut(t, 1, data, v, api.ErrArg)
		}
	}
	for _, size := range append(farAbove(), 0, 1<<16+1, 1<<20) {
		wantNotCut(t, 1, []byte{1}, size, api.ErrArg)
		wantNotCut(t, 1, long, size, api.ErrArg)
	}
	wantNotCut(t, 0, long, 1, api.ErrLong)
	wantNotCut(t, math.MaxInt, long, 1<<16, api.ErrLong)
	wantNotCut(t, 5, append(long, long...), 1<<16, api.ErrLong)
}
