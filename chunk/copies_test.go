package chunk_test

import (
	"bytes"
	"testing"

	"teasel/chunk"
)

// TestP2Cut: pieces share nothing with data, nor with each other.
func TestP2Cut(t *testing.T) {
	data, check := roomy(t, "abcdefgh")
	for _, size := range []int{1, 3, 4, 8, 9} {
		l := mustCut(t, 1, data, size)
		other := mustCut(t, 1, data, size)
		for i := range l {
			spoil(l[i].Data)
			for _, p := range append(l[i+1:len(l):len(l)], other...) {
				if want := "abcdefgh"[p.At : p.At+len(p.Data)]; string(p.Data) != want {
					t.Fatalf("by %d: %q behind piece %d; want %q", size, p.Data, i, want)
				}
			}
		}
		check()
	}
	l := mustCut(t, 1, data, 3)
	spoil(data)
	wantPieces(t, l, 1, []byte("abcdefgh"), 3)
	room := mustCut(t, 1, []byte("abcdefgh"), 3)
	for _, p := range room {
		_ = append(p.Data, "###"...)
	}
	wantPieces(t, room, 1, []byte("abcdefgh"), 3)
}

// TestP2Add: a builder keeps no memory that it was handed.
func TestP2Add(t *testing.T) {
	b := chunk.NewBuilder()
	whole := piece(1, "abcdefgh", 0, 8)
	for _, c := range []struct {
		at   int
		text string
	}{{0, "abcd"}, {2, "cdef"}, {0, "abc"}, {6, "gh"}} {
		p := whole
		data, check := roomy(t, c.text)
		p.At, p.Data = c.at, data
		wantAdd(t, b, p, c.at == 6)
		check()
		spoil(data)
	}
	wantDone(t, b, "abcdefgh")
}

// TestP2Done: what was handed out is nothing to what the builder makes later.
func TestP2Done(t *testing.T) {
	b := chunk.NewBuilder()
	wantAdd(t, b, piece(1, "abcdefgh", 0, 8), true)
	first, err := b.Done()
	wantNone(t, err)
	wantAdd(t, b, piece(1, "ABCDEFGH", 0, 8), true)
	if string(first) != "abcdefgh" {
		t.Errorf("Done: %q", first)
	}
	spoil(first)
	second, err := b.Done()
	wantNone(t, err)
	if string(second) != "ABCDEFGH" {
		t.Errorf("Done: %q", second)
	}
}

func TestP2Text(t *testing.T) {
	p := piece(1, "abcdef", 0, 6)
	data, check := roomy(t, "abcdef")
	p.Data = data
	b, other := chunk.Encode(p), chunk.Encode(p)
	check()
	spoil(data)
	if !bytes.Equal(b, other) {
		t.Errorf("Encode: % x; want % x", b, other)
	}
	spoil(other)

	text, check := roomy(t, string(b))
	one, err := chunk.Decode(text)
	wantNone(t, err)
	two, err := chunk.Decode(text)
	wantNone(t, err)
	check()
	spoil(text)
	spoil(one.Data)
	if string(two.Data) != "abcdef" {
		t.Errorf("Decode: %q", two.Data)
	}
}

// TestP7Apart: builders have nothing in common.
func TestP7Apart(t *testing.T) {
	a, b := chunk.NewBuilder(), chunk.NewBuilder()
	p := piece(1, "abcdef", 0, 3)
	wantAdd(t, a, p, false)
	wantNext(t, b, -1, 0)
	wantAdd(t, b, piece(2, "xyz", 0, 3), true)
	wantAdd(t, a, piece(1, "abcdef", 3, 6), true)
	wantDone(t, b, "xyz")
	wantDone(t, a, "abcdef")
}
