package rlog_test

import (
	"math"
	"testing"

	"teasel/api"
	"teasel/wal"
)

func TestP703Compact(t *testing.T) {
	terms := []int{2, 3, 3, 4}
	for n := 1; n <= 4; n++ {
		g := newLog(t, 5, 2, entries("a", terms...)...)
		wantErrno(t, "Compact", g.Compact(5+n), api.OK)
		wantLog(t, g, 5+n, terms[n-1], entries("a", terms...)[n:]...)
		wantErrno(t, "Compact once more", g.Compact(5+n), api.ErrArg)
	}
}

func TestP703CompactStepwise(t *testing.T) {
	terms := []int{2, 3, 3, 4}
	g := newLog(t, 5, 2, entries("a", terms...)...)
	for n := 1; n <= 4; n++ {
		wantErrno(t, "Compact", g.Compact(5+n), api.OK)
		wantLog(t, g, 5+n, terms[n-1], entries("a", terms...)[n:]...)
	}
	if last := g.Add(entries("b", 4)...); last != 10 {
		t.Errorf("Add: %d; want 10", last)
	}
	wantLog(t, g, 9, 4, entries("b", 4)...)
}

func TestP703CompactRefused(t *testing.T) {
	g := newLog(t, 5, 2, entries("a", 2, 3)...)
	for _, index := range append(farNumbers(), 0, 4, 5, 8, 9) {
		wantErrno(t, "Compact", g.Compact(index), api.ErrArg)
	}
	wantLog(t, g, 5, 2, entries("a", 2, 3)...)
	empty := newLog(t, 0, 0)
	for _, index := range append(farNumbers(), 0, 1) {
		wantErrno(t, "Compact", empty.Compact(index), api.ErrArg)
	}
	wantLog(t, empty, 0, 0)
	late := newLog(t, math.MaxInt-1, 1, entries("a", 1)...)
	wantErrno(t, "Compact of the greatest", late.Compact(math.MaxInt), api.OK)
	if late.Len() != 0 || !late.Match(math.MaxInt, 1) {
		t.Error("Compact of the greatest")
	}
}

func TestP703Restore(t *testing.T) {
	own := entries("a", 2, 3, 3, 4) // 6 to 9, behind 5 of term 2
	for _, c := range []struct {
		index, term, stay int
	}{
		{6, 2, 3}, {7, 3, 2}, {8, 3, 1}, {9, 4, 0}, // as Compact
		{6, 3, 0}, {7, 2, 0}, {8, 4, 0}, {9, 3, 0}, {9, 5, 0}, {5, 1, 0}, {5, 3, 0}, // other terms
		{10, 4, 0}, {11, 9, 0}, {1 << 40, 1, 0}, // beyond
		{4, 2, 0}, {1, 1, 0}, {0, 0, 0}, // ahead
	} {
		g := newLog(t, 5, 2, own...)
		g.Restore(c.index, c.term)
		wantLog(t, g, c.index, c.term, entries("a", 2, 3, 3, 4)[4-c.stay:]...)
	}
}

// TestP703RestoreThere: of what may not be nothing is promised, but that the call ends; the log stays as it is.
func TestP703RestoreThere(t *testing.T) {
	l := entries("a", 2, 3)
	g := newLog(t, 5, 2, l...)
	for _, c := range [][2]int{
		{5, 2}, {1, 0}, {0, 1}, {-1, -1}, {-1, 2}, {7, 0}, {7, -1}, {math.MinInt, math.MinInt}, {math.MaxInt, 0}, {math.MinInt, 3},
	} {
		g.Restore(c[0], c[1])
		wantLog(t, g, 5, 2, l...)
	}
}

func TestP703RestoreGoesOn(t *testing.T) {
	g := newLog(t, 0, 0, entries("a", 1, 1)...)
	g.Restore(7, 3)
	if last := g.Add(entries("b", 4)...); last != 8 {
		t.Errorf("Add: %d; want 8", last)
	}
	wantMerge(t, g, 7, entries("c", 3, 5), 8, entries("c", 3, 5))
	wantLog(t, g, 7, 3, entries("c", 3, 5)...)
	if _, _, e := g.Merge(2, entries("c", 5)...); e != api.ErrNot {
		t.Errorf("Merge ahead: %v; want not", e)
	}
}

func TestP703Hint(t *testing.T) {
	g := newLog(t, 5, 2, entries("a", 2, 3, 3, 3, 5)...) // 6 to 10
	for _, c := range [][3]int{
		{6, 2, 6}, {7, 3, 7}, {8, 3, 7}, {9, 3, 7}, {10, 5, 10}, // there; the one ahead of the first has that term, too
		{11, 0, 11}, {12, 0, 11}, {1 << 40, 0, 11}, {math.MaxInt, 0, 11}, // beyond
		{5, 0, 6}, {4, 0, 6}, {0, 0, 6}, {-1, 0, 6}, {math.MinInt, 0, 6}, // ahead
	} {
		wantHint(t, g, c[0], c[1], c[2])
	}
	g.Compact(8)
	wantHint(t, g, 9, 3, 9)
	wantHint(t, g, 8, 0, 9)
}

func TestP703HintWithoutEntries(t *testing.T) {
	for _, c := range []struct{ index, term int }{{0, 0}, {5, 2}} {
		g := newLog(t, c.index, c.term)
		for _, at := range []int{-1, 0, c.index, c.index + 1, c.index + 2, math.MinInt, math.MaxInt} {
			wantHint(t, g, at, 0, c.index+1)
		}
	}
}

// TestP703HintOfOnePiece: terms that were laid as they are may come twice; the entries that all have one end there.
func TestP703HintOfOnePiece(t *testing.T) {
	g := newLog(t, 0, 0)
	g.Add(entries("a", 3, 3, 5, 3, 3)...)
	for _, c := range [][3]int{{1, 3, 1}, {2, 3, 1}, {3, 5, 3}, {4, 3, 4}, {5, 3, 4}} {
		wantHint(t, g, c[0], c[1], c[2])
	}
}

// TestP703Long: what is dropped from a log that goes on does not hold it up.
func TestP703Long(t *testing.T) {
	g := newLog(t, 0, 0)
	for i := 1; i <= 200000; i++ {
		if last := g.Add(wal.Entry{Term: 1, Data: []byte{byte(i)}}); last != i {
			t.Fatalf("Add: %d; want %d", last, i)
		}
		if i > 1000 {
			wantErrno(t, "Compact", g.Compact(i-1000), api.OK)
		}
	}
	if l := g.Get(199999, 300000); len(l) != 2 || l[1].Data[0] != byte(200000&0xff) {
		t.Errorf("Get: %v", l)
	}
}
