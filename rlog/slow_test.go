package rlog_test

import (
	"slices"
	"testing"

	"teasel/api"
	"teasel/draws"
	"teasel/rlog"
	"teasel/wal"
)

// slowLog has its entries by their numbers, and goes through all numbers for each question.
type slowLog struct {
	index, term int
	entries     map[int]wal.Entry
}

const mostIndex = 200

func numbered(first int, l []wal.Entry) map[int]wal.Entry {
	m := map[int]wal.Entry{}
	for i, e := range l {
		m[first+i] = e
	}
	return m
}

func (g *slowLog) all() []wal.Entry { return g.get(0, mostIndex) }

func (g *slowLog) get(from, past int) []wal.Entry {
	var l []wal.Entry
	for i := range mostIndex {
		if e, is := g.entries[i]; is && i >= from && i < past {
			l = append(l, e)
		}
	}
	return l
}

func (g *slowLog) last() int { return g.index + len(g.entries) }

func (g *slowLog) termOf(index int) (int, bool) {
	if index == g.index {
		return g.term, true
	}
	e, is := g.entries[index]
	return e.Term, is
}

func (g *slowLog) drop(from, to int) {
	for i := from; i <= to; i++ {
		delete(g.entries, i)
	}
}

func (g *slowLog) add(l []wal.Entry) int {
	for _, e := range l {
		g.entries[g.last()+1] = e
	}
	return g.last()
}

func (g *slowLog) merge(index int, l []wal.Entry) (int, []wal.Entry, api.Errno) {
	term, is := g.termOf(index)
	terms := []int{max(term, 1)}
	for _, e := range l {
		terms = append(terms, e.Term)
	}
	if !is || !slices.IsSorted(terms) {
		return 0, nil, api.ErrNot
	}
	for i, e := range l {
		if own, is := g.termOf(index + 1 + i); !is || own != e.Term {
			g.drop(index+1+i, mostIndex)
			g.add(l[i:])
			return index + 1 + i, l[i:], api.OK
		}
	}
	return 0, nil, api.OK
}

func (g *slowLog) compact(index int) api.Errno {
	e, is := g.entries[index]
	if !is {
		return api.ErrArg
	}
	g.drop(0, index)
	g.index, g.term = index, e.Term
	return api.OK
}

func (g *slowLog) restore(index, term int) {
	if e, is := g.entries[index]; is && e.Term == term {
		g.compact(index)
	} else if index != g.index || term != g.term {
		*g = slowLog{index: index, term: term, entries: map[int]wal.Entry{}}
	}
}

func (g *slowLog) hint(index int) (int, int) {
	if index > g.last() {
		return 0, g.last() + 1
	}
	if index <= g.index {
		return 0, g.index + 1
	}
	least := index
	for i := index; i > g.index && g.entries[i].Term == g.entries[index].Term; i-- {
		least = i
	}
	return g.entries[index].Term, least
}

// pair is a log and a slow one that are called alike.
type pair struct {
	t    *testing.T
	s    *draws.Source
	g    *rlog.Log
	slow *slowLog
}

func (p *pair) place() int {
	return p.s.Between(max(p.slow.index-2, 0), p.slow.last()+2)
}

// terms rise mostly, from about that of a place on.
func (p *pair) terms(index int) []wal.Entry {
	term, _ := p.slow.termOf(index)
	var l []wal.Entry
	for range p.s.Below(5) {
		if p.s.Below(20) == 0 {
			term--
		}
		if p.s.Below(3) == 0 {
			term++
		}
		l = append(l, wal.Entry{Term: term, Data: []byte{byte(p.s.Next())}})
	}
	return l
}

// like tells entries that the log has from a place on, and a few others behind.
func (p *pair) like(index int) []wal.Entry {
	l := p.slow.get(index+1, index+1+p.s.Below(5))
	if p.s.Below(2) == 0 {
		return l
	}
	return append(l, p.terms(index+len(l))...)
}

func (p *pair) step() {
	index := p.place()
	switch p.s.Below(12) {
	case 0, 1:
		l := p.terms(p.slow.last())
		if last, want := p.g.Add(l...), p.slow.add(l); last != want {
			p.t.Fatalf("Add(%v): %d; want %d", l, last, want)
		}
	case 2:
		if e, want := p.g.Compact(index), p.slow.compact(index); e != want {
			p.t.Fatalf("Compact(%d): %v; want %v", index, e, want)
		}
	case 3:
		p.restore(index)
	case 4, 5:
		p.merge(index, p.terms(index))
	default:
		p.merge(index, p.like(index))
	}
}

func (p *pair) restore(index int) {
	term, _ := p.slow.termOf(index)
	term += p.s.Below(8) / 7
	if index > 0 && term > 0 {
		p.g.Restore(index, term)
		p.slow.restore(index, term)
	}
}

func (p *pair) merge(index int, l []wal.Entry) {
	from, more, e := p.g.Merge(index, l...)
	wantFrom, wantMore, want := p.slow.merge(index, l)
	if from != wantFrom || !areSame(more, wantMore) || e != want {
		p.t.Fatalf("Merge(%d, %v): %d, %v, %v; want %d, %v, %v", index, l, from, more, e, wantFrom, wantMore, want)
	}
}

func (p *pair) compare() {
	p.t.Helper()
	wantLog(p.t, p.g, p.slow.index, p.slow.term, p.slow.all()...)
	index, past := p.place(), p.place()
	if l, want := p.g.Get(index, past), p.slow.get(index, past); !areSame(l, want) {
		p.t.Fatalf("Get(%d, %d): %v; want %v", index, past, l, want)
	}
	term, least := p.slow.hint(index)
	wantHint(p.t, p.g, index, term, least)
	lastTerm, _ := p.slow.termOf(p.slow.last())
	for _, term := range []int{lastTerm - 1, lastTerm, lastTerm + 1} {
		want := term > lastTerm || term == lastTerm && index >= p.slow.last()
		if p.g.Newer(index, term) != want {
			p.t.Fatalf("Newer(%d, %d): %v", index, term, !want)
		}
	}
}

func TestP702AgainstSlowLog(t *testing.T) {
	for seed := range uint64(400) {
		p := &pair{t: t, s: draws.New(seed), g: newLog(t, 0, 0), slow: &slowLog{entries: map[int]wal.Entry{}}}
		for p.slow.last() < mostIndex-20 && p.s.Count() < 4000 && !t.Failed() {
			p.step()
			p.compare()
		}
		if t.Failed() {
			t.Fatalf("with seed %d", seed)
		}
	}
}
