package raft

// side is whom a member stands by: the leader that it hears of, else the best one of those that ask for votes. It says yes to no one else ahead of a term. So of those that ask in the same ticks, again and again, one wins at last, whatever they draw; and who doesn't hear of a leader that others hear of can't unseat it.
type side struct {
	node       int
	index, log int // the last entry of one that asks
	leads      bool
	age        int // ticks since it was heard of
}

// jitter is how many ticks more than it waits may lie between two questions of one that asks, as others count them, when messages take a tick at most.
const jitter = 2

// lean has a member stand by another one, if that is better than the one that it stands by, or that one was not heard of for so long that it would have asked again.
func (r *Raft) lean(to side) {
	s := r.side
	switch {
	case to.leads, to.node == s.node, s.node == nobody, s.age > r.o.Hi+jitter, !s.leads && to.isBetter(s):
		r.side = to
	}
}

// isBetter puts all that may ask into one order, first by their logs.
func (s side) isBetter(than side) bool {
	switch {
	case s.log != than.log:
		return s.log > than.log
	case s.index != than.index:
		return s.index > than.index
	}
	return s.node < than.node
}
