package raft

import (
	"teasel/api"
	"teasel/quorum"
)

// ballot is a question for votes that is open.
type ballot struct {
	kind  int  // MBegins, and behind it MVote; 0: none
	asks  bool // it is to be sent to those that have not answered
	again bool // it was asked twice
	said  [api.MaxNodes]int
}

// What was answered.
const (
	nothing = 0
	yes     = 1
	no      = 2
)

// ask is what a voter does when it has not heard of a leader for too long. Votes that may still come for the term that it has begun are worth another wait, once: else it would give up each term ahead of the answers, where these take longer than it waits.
func (r *Raft) ask() {
	if r.ballot.kind != MVote || r.ballot.again || !r.mayWin() {
		r.open(MBegins)
		return
	}
	r.ballot.again, r.ballot.asks = true, true
	r.rest()
}

// open asks all voters, itself too.
func (r *Raft) open(kind int) {
	r.role, r.leads = Candidate, nobody
	r.rest()
	index, log := r.log.Last()
	r.lean(side{node: r.o.Id, index: index, log: log})
	r.ballot = ballot{kind: kind, asks: true}
	r.answer(r.o.Id, kind, r.term, true)
}

// answer notes what a voter says to a question of that kind and term, and goes on when it is won.
func (r *Raft) answer(from, kind, term int, ok bool) {
	b := &r.ballot
	switch {
	case kind != b.kind || term != r.term:
		return
	case ok:
		b.said[from] = yes
	case b.said[from] == nothing:
		b.said[from] = no
	}
	switch {
	case !r.most(func(said int) bool { return said == yes }):
	case kind == MBegins:
		r.begin()
	default:
		r.lead()
	}
}

// begin begins a term of its own.
func (r *Raft) begin() {
	r.term++
	r.vote = r.o.Id
	r.open(MVote)
}

func (r *Raft) mayWin() bool {
	return r.most(func(said int) bool { return said != no })
}

// most tells whether what most voters said is such.
func (r *Raft) most(is func(said int) bool) bool {
	var such [api.MaxNodes]bool
	for k, said := range r.ballot.said {
		such[k] = is(said)
	}
	won, _ := quorum.Votes(r.Members(), such[:])
	return won
}

// sendAsks asks those that have not answered, if there is something to ask.
func (r *Raft) sendAsks() {
	if !r.ballot.asks {
		return
	}
	r.ballot.asks = false
	index, log := r.log.Last()
	for k := range quorum.All(r.Members(), quorum.Voter) {
		if r.ballot.said[k] == nothing {
			r.say(Message{Kind: r.ballot.kind, To: k, Index: index, Log: log})
		}
	}
}
