package raft

import (
	"teasel/api"
	"teasel/quorum"
	"teasel/wal"
)

const mostProposed = mostData - 16

func (r *Raft) Propose(data []byte) (int, api.Errno) {
	switch {
	case len(data) > mostProposed:
		return 0, api.ErrLong
	case r.role != Leader:
		return 0, api.ErrLeader
	case r.Last()-r.commit >= mostOpen:
		return 0, api.ErrFull
	}
	return r.add(proposal(data)), api.OK
}

// Change changes the role of one node. There is but one change at a time, so that most of the members ahead of it and most of those behind it share one.
func (r *Raft) Change(node, role int) (int, api.Errno) {
	if r.role != Leader {
		return 0, api.ErrLeader
	}
	m := r.Members()
	next, e := quorum.Change(m, node, role)
	switch {
	case e != api.OK:
		return 0, e
	case next[r.o.Id] == quorum.None, r.roll.last() > r.commit, !r.hasCommitted():
		return 0, api.ErrNot
	}
	index := r.add(change(next))
	if m[node] == quorum.None {
		r.peers[node] = r.newPeer(node)
	}
	return index, api.OK
}

func (r *Raft) Compact(index int, data []byte) api.Errno {
	if !isWithin(index, r.log.First(), r.told) {
		return api.ErrArg
	}
	m := r.roll.at(index)
	term, _ := r.log.Term(index)
	r.log.Compact(index)
	r.roll.restore(index, m, true)
	r.snap = wal.Snap{Index: index, Term: term, Data: append(quorum.Encode(m), data...)}
	r.fresh = true
	return api.OK
}
