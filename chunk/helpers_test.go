package chunk_test

import (
	"bytes"
	"errors"
	"math"
	"slices"
	"testing"

	"teasel/api"
	"teasel/chunk"
	"teasel/codec"
)

// drawn are bytes of which each one hangs on its place, and on how many there are.
func drawn(n int) []byte {
	b, v := make([]byte, n), uint32(n)
	for i := range b {
		v = v*1664525 + 1013904223
		b[i] = byte(v >> 24)
	}
	return b
}

// piece is one of text as a whole, with the bytes from at to past.
func piece(id int, text string, at, past int) chunk.Piece {
	return chunk.Piece{Id: id, At: at, Total: len(text), Sum: codec.Sum([]byte(text)), Data: []byte(text[at:past])}
}

func isSame(a, b chunk.Piece) bool {
	return a.Id == b.Id && a.At == b.At && a.Total == b.Total && a.Sum == b.Sum && bytes.Equal(a.Data, b.Data)
}

func wantNone(t *testing.T, err error) {
	t.Helper()
	if err != nil {
		t.Fatal(err)
	}
}

// wantBroken holds an error against the Broken that is promised, and asks for it in each way.
func wantBroken(t *testing.T, err error, id int, e api.Errno) {
	t.Helper()
	var b *chunk.Broken
	if !errors.As(err, &b) {
		t.Fatalf("%v is no Broken; want %v of %d", err, e, id)
	}
	if b.Id != id || b.Err != error(e) || b.Unwrap() != error(e) || !errors.Is(err, e) {
		t.Errorf("%v; want %v of %d", err, e, id)
	}
}

// wantFault holds an error against a Broken that wraps that Fault.
func wantFault(t *testing.T, err error, e api.Errno, at int, what string) {
	t.Helper()
	var b *chunk.Broken
	var f *codec.Fault
	if !errors.As(err, &b) || !errors.As(err, &f) {
		t.Fatalf("%v is no Broken with a Fault; want %v in %s at %d", err, e, what, at)
	}
	if b.Id != 0 || b.Unwrap() != error(f) || f.Err != e || f.At != at || f.What != what || !errors.Is(err, e) {
		t.Errorf("%v; want %v in %s at %d", err, e, what, at)
	}
	if want := "chunk 0: " + f.Error(); err.Error() != want {
		t.Errorf("Error: %q; want %q", err.Error(), want)
	}
}

func wantNext(t *testing.T, b *chunk.Builder, id, at int) {
	t.Helper()
	if i, k := b.Next(); i != id || k != at {
		t.Errorf("Next: %d, %d; want %d, %d", i, k, id, at)
	}
}

func wantAdd(t *testing.T, b *chunk.Builder, p chunk.Piece, whole bool) {
	t.Helper()
	if is, err := b.Add(p); is != whole || err != nil {
		t.Errorf("Add(%v): %v, %v; want %v", p, is, err, whole)
	}
}

// wantRefused asks, too, that nothing has changed that could be told.
func wantRefused(t *testing.T, b *chunk.Builder, p chunk.Piece, e api.Errno) {
	t.Helper()
	id, at := b.Next()
	is, err := b.Add(p)
	if is {
		t.Errorf("Add(%v): true beside %v", p, err)
	}
	wantBroken(t, err, p.Id, e)
	wantNext(t, b, id, at)
}

func wantDone(t *testing.T, b *chunk.Builder, text string) {
	t.Helper()
	if x, err := b.Done(); string(x) != text || err != nil {
		t.Errorf("Done: %q, %v; want %q", x, err, text)
	}
	wantNext(t, b, -1, 0)
}

func wantNotDone(t *testing.T, b *chunk.Builder, id int, e api.Errno) {
	t.Helper()
	x, err := b.Done()
	if len(x) != 0 {
		t.Errorf("Done: %q beside %v", x, err)
	}
	wantBroken(t, err, id, e)
}

// wantPieces holds pieces against what Cut promises of data.
func wantPieces(t *testing.T, l []chunk.Piece, id int, data []byte, size int) {
	t.Helper()
	var all []byte
	sum := codec.Sum(data)
	for i, p := range l {
		if p.Id != id || p.At != len(all) || p.Total != len(data) || p.Sum != sum {
			t.Fatalf("piece %d of %d bytes by %d: %d, %d, %d, %x", i, len(data), size, p.Id, p.At, p.Total, p.Sum)
		}
		if i < len(l)-1 && len(p.Data) != size || len(p.Data) > size || len(p.Data) == 0 && len(data) > 0 {
			t.Fatalf("piece %d of %d bytes by %d has %d", i, len(data), size, len(p.Data))
		}
		all = append(all, p.Data...)
	}
	if len(l) == 0 || !bytes.Equal(all, data) {
		t.Fatalf("%d bytes by %d: %d pieces, %d bytes", len(data), size, len(l), len(all))
	}
}

// belowNone are numbers that none of a piece may be.
func belowNone() []int { return []int{-1, -2, -1 << 32, math.MinInt + 1, math.MinInt} }

// farAbove are numbers above all bounds.
func farAbove() []int { return []int{1 << 32, 1<<62 + 1, math.MaxInt - 1, math.MaxInt} }

// roomy is s with spare room behind it, and a check that neither was changed.
func roomy(t *testing.T, s string) (b []byte, check func()) {
	whole := append([]byte(s), "spare room"...)
	before := slices.Clone(whole)
	return whole[:len(s)], func() {
		t.Helper()
		if !bytes.Equal(whole, before) {
			t.Errorf("P2: what was handed in was changed: %q", whole)
		}
	}
}

// spoil writes over a list and its spare room.
func spoil(b []byte) {
	b = b[:cap(b)]
	for i := range b {
		b[i] = '!'
	}
}
