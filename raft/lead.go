package raft

import (
	"teasel/api"
	"teasel/quorum"
	"teasel/wal"
)

const (
	mostOpen    = 1 << 10 // entries that are not committed yet
	mostAtOnce  = 1 << 10 // entries that are sent ahead of an answer
	mostInOne   = 1 << 19 // bytes of the entries of one message: it must get through a net
	entryAround = 16      // bytes that a message has around an entry's Data, at most
)

// peer is another member, as a leader knows it.
type peer struct {
	match int  // up to there its log is the leader's
	next  int  // what it is sent next
	sure  bool // what it is sent will fit, so that next goes on ahead of the answers
	tried bool // it is not sure, and was sent the entries from next on
	due   bool // it is to be sent something, be there entries or not
}

// wants tells whether it is to be sent something, of a log of so many entries.
func (p peer) wants(last int) bool {
	return p.due || p.sure && p.next <= last && p.next-p.match <= mostAtOnce
}

// lead begins to lead in the term that it has won. Its own first entry commits those of earlier terms with it.
func (r *Raft) lead() {
	r.role, r.leads, r.ballot = Leader, r.o.Id, ballot{}
	r.rest()
	r.beat = 0
	for k := range r.peers {
		r.peers[k] = r.newPeer(k)
	}
	r.add(nil)
}

// newPeer is one of whose log nothing is known: a node that was a member before may have been laid anew since.
func (r *Raft) newPeer(k int) peer {
	return peer{next: r.Last() + 1, due: r.isOther(k)}
}

// add lays an entry of this term at the log's end.
func (r *Raft) add(data []byte) int {
	e := wal.Entry{Term: r.term, Data: data}
	last := r.log.Add(e)
	r.roll.add(last, e)
	r.advance()
	return last
}

// advance commits what most have. Only entries of this term count: one of an earlier term that most have may still be replaced, if nothing of this term stands behind it.
func (r *Raft) advance() {
	var match [api.MaxNodes]int
	for k, p := range r.peers {
		match[k] = p.match
	}
	match[r.o.Id] = r.Last()
	n := quorum.Index(r.Members(), match[:])
	if n > r.commit && r.log.Match(n, r.term) {
		r.commit = n
	}
}

// hasCommitted tells whether an entry of this term is committed.
func (r *Raft) hasCommitted() bool { return r.log.Match(r.commit, r.term) }

func (r *Raft) takeAdded(m added) {
	p := &r.peers[m.From]
	switch {
	case r.role != Leader || m.Index > r.Last():
	case m.Ok:
		p.match = max(p.match, m.Index)
		p.next = max(p.next, p.match+1)
		p.sure, p.tried = true, false
		r.advance()
	case m.Index > p.match && (p.sure || m.Index == p.next-1): // else it answers something older
		p.next = max(p.match+1, r.alike(m)+1)
		p.sure, p.tried, p.due = false, false, true
	}
}

// alike tells up to which number ahead of Index a log that does not match there may be the own one, by its hint.
func (r *Raft) alike(m added) int {
	for i := m.Index - 1; i >= m.Hint; i-- {
		if r.log.Match(i, m.HintTerm) {
			return i
		}
	}
	return min(m.Hint, m.Index) - 1
}

// sendDue sends all that are to be sent something what they need.
func (r *Raft) sendDue() {
	for k := range r.peers {
		for r.wantsSend(k) {
			r.sendTo(k)
		}
	}
}

func (r *Raft) wantsSend(k int) bool {
	return r.role == Leader && r.isOther(k) && r.peers[k].wants(r.Last())
}

// sendTo sends entries behind those that another one has, or may have; a snapshot, where they are no more. To one that does not answer they go once: then it is only asked whether it is there.
func (r *Raft) sendTo(k int) {
	p := &r.peers[k]
	p.due = false
	ahead, is := r.log.Term(p.next - 1)
	if !is {
		r.say(Message{Kind: MSnap, To: k, Commit: r.commit, Snap: copyOf(r.snap)})
		p.next, p.tried = r.snap.Index+1, false
		return
	}
	m := Message{Kind: MAppend, To: k, Index: p.next - 1, Log: ahead, Commit: r.commit}
	if !p.tried {
		m.Entries = r.batch(p.next)
	}
	r.say(m)
	if p.sure {
		p.next += len(m.Entries)
	} else {
		p.tried = true
	}
}

// batch tells the entries from one on that go into one message: one at least, if there is one.
func (r *Raft) batch(from int) []wal.Entry {
	l := r.log.Get(from, from+r.o.Batch)
	room := mostInOne
	for i, e := range l {
		room -= entryAround + len(e.Data)
		if room < 0 && i > 0 {
			return l[:i]
		}
	}
	return l
}
