package raft

import "teasel/api"

// mostNumber and mostData are bounds of what a wal keeps.
const (
	mostNumber = 1 << 40
	mostData   = 1 << 18
)

// Messages by what they are, as the steps want them.
type (
	begins  Message
	granted Message // MVoted, that answers begins
	vote    Message
	voted   Message // MVoted, that answers vote
	entries Message
	added   Message
	snap    Message
)

// Step takes a message. One of a later term ends the own one, for whatever it is then, but for the questions ahead of a term: they must not disturb anybody.
func (r *Raft) Step(m Message) api.Errno {
	if m.To != r.o.Id || m.From == r.o.Id || !isMessage(m) {
		return api.ErrArg
	}
	switch letter := letterOf(m); {
	case m.Kind == MBegins:
		r.take(letter)
	case m.Term > r.term:
		r.enter(m.Term)
		fallthrough
	case m.Term == r.term, isGranted(m):
		r.take(letter)
	default:
		r.refuse(letter)
	}
	return api.OK
}

func letterOf(m Message) any {
	switch m.Kind {
	case MBegins:
		return begins(m)
	case MVote:
		return vote(m)
	case MAppend:
		return entries(m)
	case MAdded:
		return added(m)
	case MSnap:
		return snap(m)
	}
	if isGranted(m) {
		return granted(m)
	}
	return voted(m)
}

func isGranted(m Message) bool { return m.Kind == MVoted && m.Hint == MBegins }

func (r *Raft) take(letter any) {
	switch m := letter.(type) {
	case begins:
		r.takeBegins(m)
	case granted:
		r.answer(m.From, MBegins, m.HintTerm, m.Ok)
	case vote:
		r.takeVote(m)
	case voted:
		r.answer(m.From, MVote, m.Term, m.Ok)
	case entries:
		r.takeEntries(m)
	case added:
		r.takeAdded(m)
	case snap:
		r.takeSnap(m)
	}
}

// refuse tells those that ask in a term that is over which one there is now.
func (r *Raft) refuse(letter any) {
	switch m := letter.(type) {
	case vote:
		r.say(Message{Kind: MVoted, To: m.From, Hint: MVote, HintTerm: m.Term})
	case entries:
		r.say(Message{Kind: MAdded, To: m.From})
	case snap:
		r.say(Message{Kind: MAdded, To: m.From})
	}
}

// enter is in a term that others have begun.
func (r *Raft) enter(term int) {
	r.term, r.vote = term, nobody
	r.role, r.leads, r.ballot = Follower, nobody, ballot{}
	if r.side.leads {
		r.side = side{node: nobody}
	}
}

func (r *Raft) takeBegins(m begins) {
	r.lean(side{node: m.From, index: m.Index, log: m.Log})
	ok := r.role != Leader && r.side.node == m.From && r.log.Newer(m.Index, m.Log)
	r.say(Message{Kind: MVoted, To: m.From, Ok: ok, Hint: MBegins, HintTerm: m.Term})
}

func (r *Raft) takeVote(m vote) {
	r.lean(side{node: m.From, index: m.Index, log: m.Log})
	ok := (r.vote == nobody || r.vote == m.From) && r.log.Newer(m.Index, m.Log)
	if ok {
		r.vote = m.From
	}
	r.say(Message{Kind: MVoted, To: m.From, Ok: ok, Hint: MVote, HintTerm: m.Term})
}

func isMessage(m Message) bool {
	for _, n := range [...]int{m.Term, m.Index, m.Log, m.Commit, m.Hint, m.HintTerm} {
		if !isWithin(n, 0, mostNumber) {
			return false
		}
	}
	switch {
	case !isWithin(m.From, 0, api.MaxNodes-1):
		return false
	case m.Kind == MAppend:
		return areEntries(m)
	case m.Kind == MSnap:
		return isSnap(m)
	}
	return isWithin(m.Kind, MVote, MBegins)
}

// areEntries tells whether a leader of that term may have entries as a message brings them: a log with others could not be kept beside the term.
func areEntries(m Message) bool {
	least := max(m.Log, 1)
	for _, e := range m.Entries {
		if !isWithin(e.Term, least, m.Term) || len(e.Data) > mostData {
			return false
		}
		least = e.Term
	}
	return true
}

func isSnap(m Message) bool {
	_, is := front(m.Snap.Data)
	return is && isWithin(m.Snap.Index, 1, mostNumber) && isWithin(m.Snap.Term, 1, m.Term)
}

// say lays a message ready.
func (r *Raft) say(m Message) {
	m.From, m.Term = r.o.Id, r.term
	r.messages = append(r.messages, m)
}
