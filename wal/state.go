package wal

import (
	"bytes"
	"slices"

	"teasel/api"
)

const (
	mostNumber = 1 << 40
	mostData   = 1 << 18
)

// state is what a log holds between two calls. Its changes tell the next state, and leave it as it is: they hold for what is asked, and for what is read from a disk.
type state struct {
	hard Hard
	snap Snap
	list []Entry
	room int // how many bytes more it might take as a record
}

func (a area) blank() state {
	return state{hard: Hard{Vote: -1}, room: a.most() - stateHead}
}

// first tells the number of the first entry, be it there or not.
func (s state) first() int { return s.snap.Index + 1 }

func (s state) put(from int, l []Entry) (state, error) {
	k := from - s.first()
	if from < s.first() || k > len(s.list) || slices.ContainsFunc(l, isWrong) {
		return state{}, api.ErrArg
	}
	s.room += weight(s.list[k:]) - weight(l)
	if s.room < 0 {
		return state{}, api.ErrFull
	}
	if k < len(s.list) {
		s.list = slices.Clip(s.list[:k]) // what stood there is still needed, if this is not done
	}
	s.list = append(s.list, twins(l)...)
	return s, nil
}

func (s state) set(h Hard) (state, error) {
	if !isNumber(h.Term, 0) || !isNumber(h.Commit, 0) || h.Vote < -1 || h.Vote >= api.MaxNodes {
		return state{}, api.ErrArg
	}
	s.hard = h
	return s, nil
}

func (s state) keep(x Snap) (state, error) {
	if !isNumber(x.Index, s.first()) || !isNumber(x.Term, 1) {
		return state{}, api.ErrArg
	}
	gone := s.goneWith(x)
	s.room += len(s.snap.Data) + weight(s.list[:gone]) - len(x.Data)
	if s.room < 0 {
		return state{}, api.ErrFull
	}
	x.Data = bytes.Clone(x.Data)
	s.snap, s.list = x, slices.Clone(s.list[gone:])
	return s, nil
}

// goneWith tells how many entries are no more behind a snapshot: all, if the one at its Index is not that which it has.
func (s state) goneWith(x Snap) int {
	k := x.Index - s.first()
	if k < len(s.list) && s.list[k].Term == x.Term {
		return k + 1
	}
	return len(s.list)
}

func isNumber(v, least int) bool { return least <= v && v <= mostNumber }

func isWrong(e Entry) bool { return !isNumber(e.Term, 1) || len(e.Data) > mostData }

// weight tells how many bytes entries take in a record, at most.
func weight(l []Entry) int {
	b := 0
	for _, e := range l {
		b += entryHead + len(e.Data)
	}
	return b
}

func twins(l []Entry) []Entry {
	l = slices.Clone(l)
	for i := range l {
		l[i].Data = bytes.Clone(l[i].Data)
	}
	return l
}
