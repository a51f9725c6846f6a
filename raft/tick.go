package raft

import "teasel/quorum"

const mostTicks = 1 << 16

// patience is how long a member bears it that it doesn't hear of a leader.
type patience struct {
	silent int // ticks since it has heard of one, or has asked for votes
	bears  int
}

func (r *Raft) Tick(n int) {
	if !isWithin(n, 1, mostTicks) {
		return
	}
	for range n {
		r.tick()
	}
}

func (r *Raft) tick() {
	r.side.age++
	if r.role == Leader {
		r.beats()
		return
	}
	r.silent++
	if r.silent >= r.bears && r.isVoter() {
		r.ask()
	}
}

func (r *Raft) beats() {
	r.beat++
	if r.beat < r.o.Beat {
		return
	}
	r.beat = 0
	for k := range r.peers {
		r.peers[k].due = r.isOther(k)
	}
}

// rest begins the wait for a leader anew.
func (r *Raft) rest() {
	r.patience = patience{bears: r.source.Between(r.o.Lo, r.o.Hi)}
}

func (r *Raft) isVoter() bool {
	m := r.Members()
	return m[r.o.Id] == quorum.Voter
}

// isOther tells whether a node is a member, and not this one.
func (r *Raft) isOther(k int) bool {
	m := r.Members()
	return k != r.o.Id && m[k] != quorum.None
}
