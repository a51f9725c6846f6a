package rlog_test

import (
	"bytes"
	"math"
	"slices"
	"testing"

	"teasel/api"
	"teasel/rlog"
	"teasel/wal"
)

// entries are of these terms; their Data tells them apart from others of those terms.
func entries(data string, terms ...int) []wal.Entry {
	var l []wal.Entry
	for i, term := range terms {
		l = append(l, wal.Entry{Term: term, Data: []byte{data[0], byte(i)}})
	}
	return l
}

func newLog(t *testing.T, index, term int, l ...wal.Entry) *rlog.Log {
	t.Helper()
	g, e := rlog.New(index, term, l...)
	if e != api.OK || g == nil {
		t.Fatalf("New(%d, %d, %v): %v", index, term, l, e)
	}
	return g
}

func isSame(a, b wal.Entry) bool { return a.Term == b.Term && bytes.Equal(a.Data, b.Data) }

func areSame(a, b []wal.Entry) bool { return slices.EqualFunc(a, b, isSame) }

func wantTerm(t *testing.T, g *rlog.Log, index, want int, is bool) {
	t.Helper()
	if term, found := g.Term(index); term != want || found != is {
		t.Errorf("Term(%d): %d, %v; want %d, %v", index, term, found, want, is)
	}
}

// wantLog asks for all that a log of these entries behind that place tells of itself.
func wantLog(t *testing.T, g *rlog.Log, index, term int, want ...wal.Entry) {
	t.Helper()
	last, lastTerm := index+len(want), term
	if len(want) > 0 {
		lastTerm = want[len(want)-1].Term
	}
	if i, own := g.Last(); i != last || own != lastTerm {
		t.Errorf("Last: %d, %d; want %d, %d", i, own, last, lastTerm)
	}
	if first, n := g.First(), g.Len(); first != index+1 || n != len(want) {
		t.Errorf("First, Len: %d, %d; want %d, %d", first, n, index+1, len(want))
	}
	wantTerm(t, g, index, term, true)
	for i, e := range want {
		wantTerm(t, g, index+1+i, e.Term, true)
	}
	for _, i := range []int{index - 1, index - 2, last + 1, last + 2} {
		wantTerm(t, g, i, 0, false)
	}
	if l := g.Get(index, last+2); !areSame(l, want) {
		t.Errorf("Get: %v; want %v", l, want)
	}
}

func wantErrno(t *testing.T, call string, e, want api.Errno) {
	t.Helper()
	if e != want {
		t.Errorf("%s: %v; want %v", call, e, want)
	}
}

func wantMerge(t *testing.T, g *rlog.Log, index int, l []wal.Entry, from int, more []wal.Entry) {
	t.Helper()
	if i, rest, e := g.Merge(index, l...); i != from || !areSame(rest, more) || e != api.OK {
		t.Errorf("Merge(%d, %v): %d, %v, %v; want %d, %v", index, l, i, rest, e, from, more)
	}
}

func wantHint(t *testing.T, g *rlog.Log, index, term, least int) {
	t.Helper()
	if own, i := g.Hint(index); own != term || i != least {
		t.Errorf("Hint(%d): %d, %d; want %d, %d", index, own, i, term, least)
	}
}

// farNumbers are no entries' of small logs.
func farNumbers() []int {
	return []int{math.MinInt, math.MinInt + 1, -1 << 32, -2, -1, 1 << 32, 1 << 40, math.MaxInt - 1, math.MaxInt}
}
