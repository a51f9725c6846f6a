package rlog_test

import (
	"fmt"
	"math"
	"testing"

	"teasel/api"
	"teasel/wal"
)

func TestP702Add(t *testing.T) {
	g := newLog(t, 5, 2)
	for _, c := range []struct {
		l    []wal.Entry
		last int
	}{
		{nil, 5}, {entries("a", 2), 6}, {entries("b", 4, 5), 8}, {[]wal.Entry{}, 8}, {entries("c", 5), 9},
	} {
		if last := g.Add(c.l...); last != c.last {
			t.Errorf("Add(%v): %d; want %d", c.l, last, c.last)
		}
	}
	all := append(entries("a", 2), append(entries("b", 4, 5), entries("c", 5)...)...)
	wantLog(t, g, 5, 2, all...)
}

// TestP702AddAsTheyAre: nobody asks whether their terms rise.
func TestP702AddAsTheyAre(t *testing.T) {
	l := entries("a", 1, 9, 0, -3, math.MinInt, math.MaxInt, 2)
	g := newLog(t, 5, 7)
	if last := g.Add(l...); last != 12 {
		t.Errorf("Add: %d; want 12", last)
	}
	wantLog(t, g, 5, 7, l...)
	if !g.Match(8, 0) || g.Match(9, 0) || !g.Match(9, -3) {
		t.Error("Match: not as they are")
	}
	wantErrno(t, "Compact", g.Compact(9), api.OK)
	wantLog(t, g, 9, -3, l[4:]...)
	if _, _, e := g.Merge(9, entries("b", 0)...); e != api.ErrNot {
		t.Errorf("Merge of a term 0: %v; want not", e)
	}
	wantMerge(t, g, 9, entries("b", 1), 10, entries("b", 1))
}

func TestP702Match(t *testing.T) {
	g := newLog(t, 5, 2, entries("a", 2, 3, 3)...)
	own := map[int]int{5: 2, 6: 2, 7: 3, 8: 3}
	for _, index := range append(farNumbers(), 0, 1, 2, 3, 4, 5, 6, 7, 8, 9, 10) {
		for term := -1; term <= 5; term++ {
			want := own[index] == term && own[index] != 0
			if g.Match(index, term) != want {
				t.Errorf("Match(%d, %d): %v; want %v", index, term, !want, want)
			}
		}
	}
	begin := newLog(t, 0, 0)
	if !begin.Match(0, 0) || begin.Match(0, 1) || begin.Match(1, 0) || begin.Match(-1, 0) {
		t.Error("Match of a log in which nothing is")
	}
}

func TestP702Newer(t *testing.T) {
	for _, c := range []struct {
		index, term int
		want        bool
	}{
		{8, 3, true}, {9, 3, true}, {math.MaxInt, 3, true}, {7, 3, false}, {0, 3, false}, {math.MinInt, 3, false},
		{0, 4, true}, {7, 4, true}, {9, 4, true}, {math.MinInt, math.MaxInt, true},
		{8, 2, false}, {9, 2, false}, {math.MaxInt, 2, false}, {math.MaxInt, math.MinInt, false}, {0, 0, false},
	} {
		if got := newLog(t, 5, 2, entries("a", 2, 3, 3)...).Newer(c.index, c.term); got != c.want {
			t.Errorf("Newer(%d, %d): %v", c.index, c.term, got)
		}
		if got := newLog(t, 8, 3).Newer(c.index, c.term); got != c.want {
			t.Errorf("Newer(%d, %d), without an entry: %v", c.index, c.term, got)
		}
	}
	if g := newLog(t, 0, 0); !g.Newer(0, 0) || g.Newer(-1, 0) || !g.Newer(-1, 1) {
		t.Error("Newer than a log in which nothing is")
	}
}

func TestP702Merge(t *testing.T) {
	own := entries("a", 2, 3, 3, 4) // 6 to 9, behind 5 of term 2
	for _, c := range []struct {
		index int
		terms []int
		there int // how many of them are
		stay  int // how many of the log's own do
	}{
		{9, []int{4}, 0, 4}, {9, []int{4, 5, 6}, 0, 4}, {9, []int{9}, 0, 4},
		{5, []int{2, 3, 3, 4}, 4, 4}, {5, []int{2}, 1, 4}, {6, []int{3, 3}, 2, 4}, {8, []int{4}, 1, 4},
		{5, []int{2, 3, 3, 4, 4}, 4, 4}, {7, []int{3, 4, 7, 8}, 2, 4},
		{5, []int{3}, 0, 0}, {5, []int{3, 3, 3, 4}, 0, 0}, {5, []int{2, 2}, 1, 1}, {5, []int{2, 4, 4}, 1, 1},
		{6, []int{3, 4}, 1, 2}, {6, []int{3, 3, 5}, 2, 3}, {8, []int{3}, 0, 3}, {8, []int{5, 5}, 0, 3},
		{5, nil, 0, 4}, {7, nil, 0, 4}, {9, nil, 0, 4},
	} {
		g := newLog(t, 5, 2, own...)
		l := entries("b", c.terms...)
		from, rest := c.index+1+c.there, l[c.there:]
		if len(rest) == 0 {
			from = 0
		}
		wantMerge(t, g, c.index, l, from, rest)
		wantLog(t, g, 5, 2, append(entries("a", 2, 3, 3, 4)[:c.stay], rest...)...)
	}
}

func TestP702MergeFirst(t *testing.T) {
	g := newLog(t, 0, 0)
	wantMerge(t, g, 0, nil, 0, nil)
	wantMerge(t, g, 0, entries("a", 1, 1), 1, entries("a", 1, 1))
	wantLog(t, g, 0, 0, entries("a", 1, 1)...)
	wantMerge(t, g, 0, entries("b", 2), 1, entries("b", 2))
	wantLog(t, g, 0, 0, entries("b", 2)...)
}

func TestP702MergeRefused(t *testing.T) {
	own := entries("a", 2, 3, 3, 4)
	g := newLog(t, 5, 2, own...)
	for _, c := range []struct {
		index int
		terms []int
	}{
		{4, []int{5}}, {0, []int{5}}, {10, []int{5}}, {11, []int{5}}, {4, nil}, {10, nil}, {0, nil},
		{5, []int{1}}, {5, []int{2, 3, 2}}, {5, []int{2, 3, 3, 4, 3}}, {6, []int{1}}, {7, []int{2}}, {7, []int{2, 3}}, {9, []int{3}},
		{9, []int{0}}, {9, []int{-1}}, {9, []int{math.MinInt}}, {9, []int{5, 4}}, {9, []int{math.MaxInt, math.MinInt}},
	} {
		if from, more, e := g.Merge(c.index, entries("b", c.terms...)...); from != 0 || more != nil || e != api.ErrNot {
			t.Errorf("Merge(%d, %v): %d, %v, %v; want not", c.index, c.terms, from, more, e)
		}
	}
	for _, index := range farNumbers() {
		if from, more, e := g.Merge(index, entries("b", 9)...); from != 0 || more != nil || e != api.ErrNot {
			t.Errorf("Merge(%d): %d, %v, %v; want not", index, from, more, e)
		}
	}
	wantLog(t, g, 5, 2, own...)
	begin := newLog(t, 0, 0)
	if _, _, e := begin.Merge(0, entries("b", 0)...); e != api.ErrNot {
		t.Errorf("Merge of a term 0: %v; want not", e)
	}
	wantLog(t, begin, 0, 0)
}

// TestP702MergeEach goes through all small logs and lists.
func TestP702MergeEach(t *testing.T) {
	lists := risingLists(4, 3)
	for _, own := range lists {
		for _, terms := range lists {
			for index := range 7 {
				checkMerge(t, own, terms, index)
			}
		}
	}
}

// risingLists are those of at most n terms, 1 to most.
func risingLists(n, most int) [][]int {
	all := [][]int{nil}
	for begin := 0; begin < len(all); begin++ {
		l := all[begin]
		least := 1
		if len(l) > 0 {
			least = l[len(l)-1]
		}
		for term := least; term <= most && len(l) < n; term++ {
			all = append(all, append(append([]int{}, l...), term))
		}
	}
	return all
}

func checkMerge(t *testing.T, own, terms []int, index int) {
	t.Helper()
	g := newLog(t, 0, 0, entries("a", own...)...)
	slow := &slowLog{entries: numbered(1, entries("a", own...))}
	l := entries("b", terms...)
	from, more, e := g.Merge(index, l...)
	wantFrom, wantMore, want := slow.merge(index, l)
	if from != wantFrom || !areSame(more, wantMore) || e != want {
		t.Fatalf("Merge(%d, %v) into %v: %d, %v, %v; want %d, %v, %v", index, terms, own, from, more, e, wantFrom, wantMore, want)
	}
	if l := g.Get(0, 99); !areSame(l, slow.all()) {
		t.Fatal(fmt.Sprintf("Merge(%d, %v) into %v", index, terms, own), l, slow.all())
	}
}
