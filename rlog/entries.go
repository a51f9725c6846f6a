package rlog

import (
	"bytes"

	"teasel/wal"
)

// isBegin tells whether a log may begin behind an entry of that number and term.
func isBegin(index, term int) bool {
	return index >= 0 && term >= 0 && (index == 0) == (term == 0)
}

// rise tells whether terms never fall, from term on; and 1 is the least.
func rise(term int, l []wal.Entry) bool {
	least := max(term, 1)
	for _, e := range l {
		if e.Term < least {
			return false
		}
		least = e.Term
	}
	return true
}

func copies(l []wal.Entry) []wal.Entry {
	if len(l) == 0 {
		return nil
	}
	own := make([]wal.Entry, len(l))
	for i, e := range l {
		own[i] = wal.Entry{Term: e.Term, Data: bytes.Clone(e.Data)}
	}
	return own
}

// has tells whether an entry is there. The distance is unsigned: of a number ahead of them all it is a great one.
func (g *Log) has(index int) bool {
	far := uint(index) - uint(g.index)
	return far >= 1 && far <= uint(len(g.list))
}

// cut tells the piece of the list from a number on, below another one, as far as it is there. It has no room of its own, so that nothing can be laid over what stands behind it.
func (g *Log) cut(from, past int) []wal.Entry {
	first := g.First()
	lo := uint(max(from, first)) - uint(first)
	hi := min(uint(max(past, first))-uint(first), uint(len(g.list)))
	if lo >= hi {
		return nil
	}
	return g.list[lo:hi:hi]
}

// alike tells how many entries of l, which stand behind index, are there already, of the same term.
func (g *Log) alike(index int, l []wal.Entry) int {
	for i, e := range l {
		if !g.Match(index+1+i, e.Term) {
			return i
		}
	}
	return len(l)
}

// dropFrom drops the entries from one on. They are cleared, as the list's memory would hold their Data.
func (g *Log) dropFrom(from int) {
	n := from - g.First()
	clear(g.list[n:])
	g.list = g.list[:n]
}

// dropTo drops the entries up to one, of which the term stays known.
func (g *Log) dropTo(index int) {
	term, _ := g.Term(index)
	n := index - g.index
	clear(g.list[:n:n])
	*g = Log{index: index, term: term, list: g.list[n:]}
}

// beginOf tells the least number of the entries up to index that all have a term.
func (g *Log) beginOf(term, index int) int {
	for g.has(index-1) && g.Match(index-1, term) {
		index--
	}
	return index
}
