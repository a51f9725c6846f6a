package rlog

import (
	"teasel/api"
	"teasel/wal"
)

// Add lays entries behind the others, whatever their terms, and tells the number of the last.
func (g *Log) Add(l ...wal.Entry) int {
	g.list = append(g.list, copies(l)...)
	last, _ := g.Last()
	return last
}

// Merge makes entries stand behind the one at index, and tells which of them are new there, from which number on. Those that are there already stay, and so does what stands behind them: an old message must not take away what a newer one brought.
func (g *Log) Merge(index int, l ...wal.Entry) (from int, more []wal.Entry, e api.Errno) {
	term, is := g.Term(index)
	if !is || !rise(term, l) {
		return 0, nil, api.ErrNot
	}
	there := g.alike(index, l)
	from, rest := index+1+there, l[there:]
	switch {
	case len(rest) == 0:
		return 0, nil, api.OK
	case g.has(from):
		g.dropFrom(from)
		fallthrough
	default:
		g.Add(rest...)
	}
	return from, copies(rest), api.OK
}

// Compact drops the entries up to index.
func (g *Log) Compact(index int) api.Errno {
	if !g.has(index) {
		return api.ErrArg
	}
	g.dropTo(index)
	return api.OK
}

// Restore makes the log begin behind index, at which it has an entry of that term. Its entries stay only where they are known to follow that one.
func (g *Log) Restore(index, term int) {
	switch {
	case !isBegin(index, term):
	case g.Match(index, term):
		g.Compact(index) // ErrArg, if it begins there already: then there is nothing to do
	default:
		*g = Log{index: index, term: term}
	}
}

// Hint tells where a log that does not match at index may be asked next: the term there, and the first number of it; or 0, and the nearest number that could be added.
func (g *Log) Hint(index int) (int, int) {
	switch {
	case g.has(index):
		term, _ := g.Term(index)
		return term, g.beginOf(term, index)
	case index <= g.index:
		return 0, g.First()
	}
	last, _ := g.Last()
	return 0, last + 1
}
