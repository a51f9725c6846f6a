package raft

import (
	"teasel/api"
	"teasel/wal"
)

// hear notes that a node leads in this term; false, if it can't be so.
func (r *Raft) hear(from int) bool {
	if r.role == Leader {
		return false
	}
	r.role, r.leads, r.ballot = Follower, from, ballot{}
	r.rest()
	r.lean(side{node: from, leads: true})
	return true
}

func (r *Raft) takeEntries(m entries) {
	if !r.hear(m.From) {
		return
	}
	index, l := m.Index, m.Entries
	if past := r.commit - index; past > 0 {
		// What is committed is alike everywhere: it need not be held against the log, which may have begun behind it.
		index, l = r.commit, l[min(past, len(l)):]
	} else if !r.log.Match(index, m.Log) {
		term, least := r.log.Hint(index)
		r.say(Message{Kind: MAdded, To: m.From, Index: index, Hint: least, HintTerm: term})
		return
	}
	if r.merge(index, l) {
		last := index + len(l)
		r.commit = max(r.commit, min(m.Commit, last))
		r.say(Message{Kind: MAdded, To: m.From, Index: last, Ok: true})
	}
}

// merge makes entries stand behind the one at index; false, if their terms can't be there.
func (r *Raft) merge(index int, l []wal.Entry) bool {
	from, more, e := r.log.Merge(index, l...)
	if from > 0 {
		r.from = min(r.from, from)
		r.roll.drop(from)
		r.roll.add(from, more...)
	}
	return e == api.OK
}

func (r *Raft) takeSnap(m snap) {
	if !r.hear(m.From) {
		return
	}
	if m.Snap.Index > r.commit {
		r.restore(m.Snap)
	}
	r.say(Message{Kind: MAdded, To: m.From, Index: r.commit, Ok: true})
}

// restore takes a snapshot for all that is up to its Index. What stands behind it stays if the entry there is the snapshot's own, as wal.Keep has it.
func (r *Raft) restore(s wal.Snap) {
	members, _ := front(s.Data)
	stays := r.log.Match(s.Index, s.Term)
	r.log.Restore(s.Index, s.Term)
	r.roll.restore(s.Index, members, stays)
	r.snap, r.fresh = copyOf(s), true
	r.commit, r.told = s.Index, s.Index
	r.keepsSnap(s.Index, stays)
}
