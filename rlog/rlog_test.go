package rlog_test

import (
	"math"
	"testing"

	"teasel/api"
	"teasel/rlog"
	"teasel/wal"
)

func TestP701New(t *testing.T) {
	for _, c := range []struct {
		index, term int
		l           []wal.Entry
	}{
		{0, 0, nil},
		{0, 0, []wal.Entry{}},
		{0, 0, entries("a", 1)},
		{0, 0, entries("a", 7, 7, 9)},
		{1, 1, nil},
		{5, 2, entries("a", 2, 3, 3, 4)},
		{5, 2, entries("a", 3)},
		{1, 1 << 40, entries("a", 1<<40)},
		{1 << 40, 1, entries("a", 1, 1, 1<<40)},
		{9, math.MaxInt, entries("a", math.MaxInt, math.MaxInt)},
	} {
		wantLog(t, newLog(t, c.index, c.term, c.l...), c.index, c.term, c.l...)
	}
}

func TestP701NewRefused(t *testing.T) {
	for _, c := range []struct {
		index, term int
		l           []wal.Entry
	}{
		{1, 0, nil}, {0, 1, nil}, {-1, 0, nil}, {0, -1, nil}, {-1, -1, nil}, {-1, 1, nil}, {1, -1, nil},
		{math.MinInt, math.MinInt, nil}, {math.MaxInt, 0, nil}, {0, math.MaxInt, nil},
		{0, 0, entries("a", 0)}, {0, 0, entries("a", -1)}, {0, 0, entries("a", math.MinInt)},
		{3, 4, entries("a", 3)}, {3, 4, entries("a", 0)}, {3, 4, entries("a", 3, 4)},
		{0, 0, entries("a", 2, 1)}, {0, 0, entries("a", 1, 2, 3, 2)}, {3, 1, entries("a", 5, 1)}, {3, 1, entries("a", 5, 0, 5)},
		{1, 0, entries("a", 1)}, {0, 1, entries("a", 1)},
	} {
		if g, e := rlog.New(c.index, c.term, c.l...); g != nil || e != api.ErrArg {
			t.Errorf("New(%d, %d, %v): %v, %v; want arg", c.index, c.term, c.l, g, e)
		}
	}
}

// TestP701LogsApart (P7): what one log is told is nothing to another one.
func TestP701LogsApart(t *testing.T) {
	l := entries("a", 1, 2)
	a, b := newLog(t, 0, 0, l...), newLog(t, 0, 0, l...)
	a.Add(entries("b", 3)...)
	a.Compact(2)
	wantLog(t, a, 2, 2, entries("b", 3)...)
	wantLog(t, b, 0, 0, l...)
}

func TestP701TermBeyond(t *testing.T) {
	for _, g := range []*rlog.Log{newLog(t, 0, 0), newLog(t, 0, 0, entries("a", 1, 2)...), newLog(t, 4, 1, entries("a", 3)...)} {
		for _, index := range farNumbers() {
			wantTerm(t, g, index, 0, false)
		}
	}
	// Where the least number there is is looked for behind the place, its distance must not be taken for a small one.
	wantTerm(t, newLog(t, math.MaxInt-1, 3), math.MinInt, 0, false)
	wantTerm(t, newLog(t, math.MaxInt-1, 3, entries("a", 4)...), math.MaxInt, 4, true)
}

func TestP701Get(t *testing.T) {
	l := entries("a", 2, 3, 3, 4)
	g := newLog(t, 5, 2, l...)
	for from := 3; from <= 12; from++ {
		for past := 3; past <= 12; past++ {
			var want []wal.Entry
			for i, e := range l {
				if number := 6 + i; from <= number && number < past {
					want = append(want, e)
				}
			}
			if got := g.Get(from, past); !areSame(got, want) {
				t.Errorf("Get(%d, %d): %v; want %v", from, past, got, want)
			}
		}
	}
}

func TestP701GetBeyond(t *testing.T) {
	l := entries("a", 2, 3)
	g := newLog(t, 5, 2, l...)
	for _, number := range farNumbers() {
		below, above := 0, 2
		if number > 0 {
			below, above = 2, 0
		}
		if got := g.Get(number, 99); !areSame(got, l[below:]) {
			t.Errorf("Get(%d, 99): %v; want %v", number, got, l[below:])
		}
		if got := g.Get(0, number); !areSame(got, l[above:]) {
			t.Errorf("Get(0, %d): %v; want %v", number, got, l[above:])
		}
	}
	if got := g.Get(math.MinInt, math.MaxInt); !areSame(got, l) {
		t.Errorf("Get of all: %v", got)
	}
	if got := g.Get(math.MaxInt, math.MinInt); len(got) != 0 {
		t.Errorf("Get of none: %v", got)
	}
	late := newLog(t, math.MaxInt-2, 1, l...)
	if got := late.Get(0, math.MaxInt); !areSame(got, l[:1]) {
		t.Errorf("Get of late ones: %v; want %v", got, l[:1])
	}
}
