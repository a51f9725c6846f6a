package rlog_test

import (
	"testing"

	"teasel/wal"
)

// spoil writes over all that a list reaches, its spare room too.
func spoil(l []wal.Entry) {
	l = l[:cap(l)]
	for i := range l {
		b := l[i].Data[:cap(l[i].Data)]
		for k := range b {
			b[k] = '!'
		}
		l[i].Term = -77
	}
}

// roomy is a list with spare room behind it and behind its entries' Data, and a copy of all of that.
func roomy(data string, terms ...int) (l, copied []wal.Entry) {
	for _, list := range []*[]wal.Entry{&l, &copied} {
		for _, e := range entries(data, append(terms, 9)...) {
			*list = append(*list, wal.Entry{Term: e.Term, Data: append(make([]byte, 0, 16), e.Data...)})
		}
	}
	return l[:len(terms)], copied[:len(terms)]
}

// wantUnchanged asks for spare room, too.
func wantUnchanged(t *testing.T, call string, l, copied []wal.Entry) {
	t.Helper()
	n := len(l) + 1
	for i, e := range l[:n] {
		if want := copied[:n][i]; !isSame(e, want) || !areSame([]wal.Entry{{Data: e.Data[:16]}}, []wal.Entry{{Data: want.Data[:16]}}) {
			t.Errorf("%s: what was handed in is changed: %v; want %v", call, e, want)
		}
	}
}

// TestP2HandedIn: it is not changed, and what becomes of it later is nothing to the log.
func TestP2HandedIn(t *testing.T) {
	first, copied := roomy("a", 1, 2)
	g := newLog(t, 0, 0, first...)
	wantUnchanged(t, "New", first, copied)
	spoil(first)
	wantLog(t, g, 0, 0, entries("a", 1, 2)...)

	second, copied := roomy("b", 2, 3)
	g.Add(second...)
	wantUnchanged(t, "Add", second, copied)
	spoil(second)
	all := append(entries("a", 1, 2), entries("b", 2, 3)...)
	wantLog(t, g, 0, 0, all...)

	third, copied := roomy("c", 2, 4, 4)
	g.Merge(1, third...)
	wantUnchanged(t, "Merge", third, copied)
	spoil(third)
	wantLog(t, g, 0, 0, append(entries("a", 1, 2), entries("c", 2, 4, 4)[1:]...)...)
}

// TestP2Answered: what becomes of an answer is nothing to the log, nor to another answer.
func TestP2Answered(t *testing.T) {
	g := newLog(t, 0, 0, entries("a", 1, 2, 3)...)
	one, other := g.Get(1, 3), g.Get(2, 9)
	spoil(one)
	if !areSame(other, entries("a", 1, 2, 3)[1:]) {
		t.Errorf("Get: %v", other)
	}
	wantLog(t, g, 0, 0, entries("a", 1, 2, 3)...)

	l := entries("b", 4, 5)
	_, more, _ := g.Merge(3, l...)
	spoil(more)
	if !areSame(l, entries("b", 4, 5)) {
		t.Errorf("Merge: what was handed in is changed: %v", l)
	}
	wantLog(t, g, 0, 0, append(entries("a", 1, 2, 3), l...)...)
}

// TestP2DataApart: no entry's Data reaches into another one's.
func TestP2DataApart(t *testing.T) {
	g := newLog(t, 0, 0, entries("a", 1, 2, 3)...)
	_, more, _ := g.Merge(3, entries("b", 4, 4)...)
	for _, l := range [][]wal.Entry{g.Get(1, 4), more} {
		want := append([]byte{}, l[1].Data...)
		b := l[0].Data[:cap(l[0].Data)]
		for k := range b {
			b[k] = '!'
		}
		if string(l[1].Data) != string(want) {
			t.Errorf("Data: %v; want %v", l[1].Data, want)
		}
	}
}

// TestP2OwnAnswers: a log's answers may be handed to it.
func TestP2OwnAnswers(t *testing.T) {
	g := newLog(t, 0, 0, entries("a", 1, 1)...)
	g.Add(g.Get(1, 3)...)
	wantLog(t, g, 0, 0, append(entries("a", 1, 1), entries("a", 1, 1)...)...)
	wantMerge(t, g, 1, g.Get(1, 2), 0, nil)
}

func TestP2NoData(t *testing.T) {
	g := newLog(t, 0, 0, wal.Entry{Term: 1}, wal.Entry{Term: 1, Data: []byte{}})
	for _, e := range g.Get(1, 3) {
		if len(e.Data) != 0 || e.Term != 1 {
			t.Errorf("Get: %v", e)
		}
	}
}
