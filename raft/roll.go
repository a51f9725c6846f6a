package raft

import (
	"slices"

	"teasel/quorum"
	"teasel/wal"
)

// roll has the members of a group behind each entry of a log: entries may be taken out of it again, and it may begin later.
type roll struct {
	base quorum.Members // those ahead of the log's first entry
	list []entered
}

// entered is an entry that changes members.
type entered struct {
	index   int
	members quorum.Members
}

func (l *roll) now() quorum.Members {
	if n := len(l.list); n > 0 {
		return l.list[n-1].members
	}
	return l.base
}

// last tells the number of the last entry that changes them, or 0.
func (l *roll) last() int {
	if n := len(l.list); n > 0 {
		return l.list[n-1].index
	}
	return 0
}

// at tells the members as they are behind the entry index.
func (l *roll) at(index int) quorum.Members {
	m := l.base
	for _, c := range l.list {
		if c.index <= index {
			m = c.members
		}
	}
	return m
}

// add looks through entries that stand in the log from a number on.
func (l *roll) add(from int, entries ...wal.Entry) {
	for i, e := range entries {
		if m, is := Config(e.Data); is {
			l.list = append(l.list, entered{from + i, m})
		}
	}
}

// drop forgets the entries from a number on.
func (l *roll) drop(from int) {
	l.list = slices.DeleteFunc(l.list, func(c entered) bool { return c.index >= from })
}

// restore has the log begin behind index, of these members. What stands behind it is forgotten, too, if it doesn't stay.
func (l *roll) restore(index int, m quorum.Members, stays bool) {
	l.base = m
	l.list = slices.DeleteFunc(l.list, func(c entered) bool { return !stays || c.index <= index })
}
