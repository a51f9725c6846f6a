package raft

import (
	"testing"

	"teasel/api"
	"teasel/quorum"
	"teasel/wal"
)

func newOf(t *testing.T, h wal.Hard, terms ...int) *Raft {
	t.Helper()
	m, _ := quorum.Of([]int{0, 1, 2}, nil)
	var l []wal.Entry
	for _, term := range terms {
		l = append(l, wal.Entry{Term: term})
	}
	r, e := New(Options{Id: 0, Members: m, Lo: 5, Hi: 5, Beat: 2, Batch: 4}, h, wal.Snap{}, 1, l...)
	if e != api.OK {
		t.Fatalf("New: %v", e)
	}
	return r
}

func snapOf(index, term int) Message {
	m, _ := quorum.Of([]int{0, 1, 2}, nil)
	return Message{Kind: MSnap, From: 1, To: 0, Term: 9, Snap: wal.Snap{Index: index, Term: term, Data: quorum.Encode(m)}}
}

// TestP903KeptBehindSnapshot: what a wal would have left behind a snapshot, and the log has not, is handed out as no more.
func TestP903KeptBehindSnapshot(t *testing.T) {
	for i, c := range []struct {
		ahead          []Message // which come ahead of the same Ready
		snap           Message
		from, entries  int
		last, lastTerm int
	}{
		{nil, snapOf(2, 1), 0, 0, 4, 1},
		{nil, snapOf(2, 3), 0, 0, 2, 3}, // a wal has another entry there, and drops all, too
		{nil, snapOf(4, 1), 0, 0, 4, 1},
		{nil, snapOf(9, 5), 0, 0, 9, 5},
		{[]Message{{Index: 4, Log: 1, Entries: []wal.Entry{{Term: 3}}}}, snapOf(3, 1), 5, 1, 5, 3},
		{[]Message{{Index: 4, Log: 1, Entries: []wal.Entry{{Term: 3}}}}, snapOf(3, 2), 0, 0, 3, 2},
		{[]Message{{Index: 4, Log: 1, Entries: []wal.Entry{{Term: 3}}}}, snapOf(5, 4), 0, 0, 5, 4},
		{[]Message{{Index: 1, Log: 1, Entries: []wal.Entry{{Term: 3}, {Term: 3}}}}, snapOf(2, 3), 3, 1, 3, 3},
		{[]Message{{Index: 1, Log: 1, Entries: []wal.Entry{{Term: 3}, {Term: 3}}}}, snapOf(2, 1), 3, 0, 2, 1}, // a wal has 3 and 4 still
		{[]Message{{Index: 1, Log: 1, Entries: []wal.Entry{{Term: 3}}}}, snapOf(5, 1), 0, 0, 5, 1},
	} {
		r := newOf(t, wal.Hard{Term: 1, Vote: -1}, 1, 1, 1, 1)
		for _, m := range c.ahead {
			m.Kind, m.From, m.Term = MAppend, 1, 9
			r.Step(m)
		}
		if e := r.Step(c.snap); e != api.OK {
			t.Fatalf("%d: %v", i, e)
		}
		x := r.Ready()
		if x.From != c.from || len(x.Entries) != c.entries || x.Snap.Index != c.snap.Snap.Index {
			t.Errorf("%d: from %d on %v, snapshot of %d", i, x.From, x.Entries, x.Snap.Index)
		}
		if last, term := r.log.Last(); last != c.last || term != c.lastTerm || r.Wants() {
			t.Errorf("%d: then up to %d, of term %d", i, last, term)
		}
	}
}

// TestP905HintsLead: where logs do not match, a leader asks next where they may; what is older is passed over.
func TestP905HintsLead(t *testing.T) {
	r := newOf(t, wal.Hard{Term: 4, Vote: -1}, 1, 1, 2, 2, 4)
	r.open(MVote)
	r.answer(1, MVote, 4, true)
	if r.Role() != Leader || r.Last() != 6 {
		t.Fatalf("role %d, last %d", r.Role(), r.Last())
	}
	r.Ready()
	for i, c := range []struct {
		p    peer
		m    Message
		next int
	}{
		{peer{next: 6}, Message{Index: 5, Hint: 3}, 3},              // it ends at 2
		{peer{next: 6}, Message{Index: 5, Hint: 2, HintTerm: 3}, 2}, // it has a term that is unknown here
		{peer{next: 6}, Message{Index: 5, Hint: 2, HintTerm: 2}, 5}, // here that term ends at 4
		{peer{next: 6}, Message{Index: 5, Hint: 2, HintTerm: 1}, 3},
		{peer{next: 6}, Message{Index: 5, Hint: 1, HintTerm: 3}, 1},
		{peer{next: 6}, Message{Index: 5}, 1},
		{peer{next: 6}, Message{Index: 5, Hint: 99}, 5},
		{peer{next: 6}, Message{Index: 4, Hint: 3}, 6}, // an older answer
		{peer{next: 6, match: 5}, Message{Index: 5, Hint: 3}, 6},
		{peer{next: 6, match: 3}, Message{Index: 5, Hint: 2}, 4},
		{peer{next: 7, match: 3, sure: true}, Message{Index: 5, Hint: 5}, 5},
		{peer{next: 6}, Message{Index: 7, Hint: 3}, 6}, // of an entry that is not here
		{peer{next: 2}, Message{Index: 4, Ok: true}, 5},
		{peer{next: 6, sure: true}, Message{Index: 4, Ok: true}, 6},
		{peer{next: 6, match: 5, sure: true}, Message{Index: 4, Ok: true}, 6},
		{peer{next: 2}, Message{Index: 7, Ok: true}, 2},
	} {
		r.peers[2] = c.p
		c.m.Kind, c.m.From, c.m.Term = MAdded, 2, 4
		if e := r.Step(c.m); e != api.OK || r.peers[2].next != c.next {
			t.Errorf("%d: %v: next %d; want %d", i, e, r.peers[2].next, c.next)
		}
		if p := r.peers[2]; p.match < c.p.match {
			t.Errorf("%d: less is known of it: %v", i, p)
		}
		if p := r.peers[2]; !c.m.Ok && p.next != c.p.next && (p.sure || !p.due) {
			t.Errorf("%d: it is not asked anew: %v", i, p)
		}
	}
}

// TestP902Peers: how far ahead of its answers another one is sent entries.
func TestP902Peers(t *testing.T) {
	for i, c := range []struct {
		p    peer
		want bool
	}{
		{peer{next: 6, sure: true}, false},
		{peer{next: 5, sure: true}, true},
		{peer{next: 5}, false},
		{peer{next: 6, due: true}, true},
		{peer{next: 1 << 10, match: -1, sure: true}, false},
	} {
		if is := c.p.wants(5); is != c.want {
			t.Errorf("%d: %t", i, is)
		}
	}
	if p := (peer{next: 2000, match: 976, sure: true}); !p.wants(5000) {
		t.Error("1024 ahead")
	}
	if p := (peer{next: 2001, match: 976, sure: true}); p.wants(5000) {
		t.Error("1025 ahead")
	}
}

// TestP902Silent: one that does not answer is sent to all the same, but entries go once, and a snapshot too.
func TestP902Silent(t *testing.T) {
	r := newOf(t, wal.Hard{Term: 1, Vote: -1, Commit: 2}, 1, 1)
	r.open(MVote)
	r.answer(2, MVote, 1, true)
	sent := func(want ...int) {
		t.Helper()
		for i, n := range want {
			for _, m := range r.Ready().Messages {
				if m.To == 1 && len(m.Entries)+100*min(m.Snap.Index, 1) != n {
					t.Errorf("%d: says %v", i, m)
				} else if m.To == 1 {
					n = -1
				}
			}
			if n != -1 {
				t.Errorf("%d: says nothing", i)
			}
			r.Tick(2)
		}
	}
	sent(1, 0, 0)
	r.Step(Message{Kind: MAdded, From: 1, Term: 1, Index: 2, Hint: 1})
	sent(3, 0)
	if e := r.Compact(2, nil); e != api.OK {
		t.Fatalf("Compact: %v", e)
	}
	r.Step(Message{Kind: MAdded, From: 1, Term: 1, Index: 2, Hint: 1}) // an older one
	sent(100, 1, 0)
	r.Step(Message{Kind: MAdded, From: 1, Term: 1, Index: 2, Hint: 1})
	sent(100, 1, 0)
	r.Step(Message{Kind: MAdded, From: 1, Term: 1, Index: 2, Ok: true})
	sent(1, 0)
}

// TestP902TakenOut: what was known of the log of a node that is taken out does not count when it is taken in again.
func TestP902TakenOut(t *testing.T) {
	r := newOf(t, wal.Hard{Term: 1, Vote: -1})
	r.open(MVote)
	r.answer(1, MVote, 1, true)
	r.Step(Message{Kind: MAdded, From: 1, Term: 1, Index: 1, Ok: true})
	r.Step(Message{Kind: MAdded, From: 2, Term: 1, Index: 1, Ok: true})
	for _, role := range []int{quorum.None, quorum.Learner} {
		r.Ready()
		index, e := r.Change(2, role)
		r.Step(Message{Kind: MAdded, From: 1, Term: 1, Index: index, Ok: true})
		if e != api.OK || r.Commit() != index {
			t.Fatalf("%v, commit %d of %d", e, r.Commit(), index)
		}
	}
	if p := r.peers[2]; p.match != 0 || p.sure || !p.due {
		t.Errorf("%v", p)
	}
	r.Step(Message{Kind: MAdded, From: 2, Term: 1, Index: 3, Ok: true})
	if _, e := r.Change(2, quorum.Voter); e != api.OK || r.peers[2].match != 3 {
		t.Errorf("%v: as a voter %v", e, r.peers[2])
	}
}

// TestP902LeadsAgain: a leader that is one no more waits as any other does, and when it leads again its ticks begin anew.
func TestP902LeadsAgain(t *testing.T) {
	r := newOf(t, wal.Hard{Term: 1, Vote: -1})
	r.open(MVote)
	r.Tick(4)
	r.answer(1, MVote, 1, true)
	r.Tick(1)
	r.Step(Message{Kind: MAdded, From: 1, Term: 9})
	r.Tick(4)
	if r.Role() != Follower || r.Term() != 9 {
		t.Fatalf("role %d, term %d", r.Role(), r.Term())
	}
	r.Tick(1)
	if r.Role() != Candidate {
		t.Errorf("role %d", r.Role())
	}
	r.open(MVote)
	r.answer(1, MVote, 9, true)
	r.Ready()
	r.Tick(1)
	if r.Role() != Leader || r.Wants() {
		t.Errorf("role %d, says %v", r.Role(), r.Ready().Messages)
	}
	r.Tick(1)
	if n := len(r.Ready().Messages); n != 2 {
		t.Errorf("says %d", n)
	}
}

// TestP905NoQuestionLeft: what it would have asked in a term that is over, or that another one leads, it does not ask, and no answer counts.
func TestP905NoQuestionLeft(t *testing.T) {
	for _, m := range []Message{{Kind: MVote, Term: 3}, {Kind: MAppend, Term: 3}, {Kind: MAppend, Term: 2}, {Kind: MVoted, Term: 3}} {
		r := newOf(t, wal.Hard{Term: 1, Vote: -1})
		r.begin()
		m.From = 2
		r.Step(m)
		for k := 1; k <= 2; k++ {
			r.Step(Message{Kind: MVoted, From: k, Term: m.Term, Hint: MVote, HintTerm: m.Term, Ok: true})
		}
		for _, y := range r.Ready().Messages {
			if y.Kind == MVote || y.Kind == MBegins {
				t.Errorf("behind %v it says %v", m, y)
			}
		}
		if r.Role() != Follower || r.Term() != m.Term {
			t.Errorf("behind %v: role %d, term %d", m, r.Role(), r.Term())
		}
	}
}

// TestP901Rolls: of members no more is kept than the log has changes.
func TestP901Rolls(t *testing.T) {
	a, _ := quorum.Of([]int{0}, nil)
	b, _ := quorum.Of([]int{0}, []int{1})
	c, _ := quorum.Of([]int{0, 1}, nil)
	l := roll{base: a}
	l.add(5, wal.Entry{}, wal.Entry{Data: change(b)}, wal.Entry{}, wal.Entry{Data: change(c)})
	for index, want := range map[int]quorum.Members{0: a, 5: a, 6: b, 7: b, 8: c, 9: c} {
		if l.at(index) != want {
			t.Errorf("at %d: %v", index, l.at(index))
		}
	}
	if l.now() != c || l.last() != 8 {
		t.Errorf("%v, %d", l.now(), l.last())
	}
	l.restore(6, b, true)
	if len(l.list) != 1 || l.now() != c || l.at(6) != b {
		t.Errorf("behind 6: %v", l)
	}
	l.drop(9)
	if l.now() != c {
		t.Errorf("9 is not there: %v", l)
	}
	l.drop(8)
	if l.now() != b || l.last() != 0 {
		t.Errorf("without 8: %v", l)
	}
	l.add(8, wal.Entry{Data: change(c)})
	l.restore(7, a, false)
	if l.now() != a || len(l.list) != 0 {
		t.Errorf("without all: %v", l)
	}
}

// TestP905EarlierTerms: what most have of an earlier term is not committed by that alone.
func TestP905EarlierTerms(t *testing.T) {
	r := newOf(t, wal.Hard{Term: 4, Vote: -1}, 1, 2, 2)
	r.open(MVote)
	r.answer(2, MVote, 4, true)
	for _, c := range []struct{ match, commit int }{{1, 0}, {3, 0}, {4, 4}} {
		if r.Step(Message{Kind: MAdded, From: 1, Term: 4, Index: c.match, Ok: true}); r.Commit() != c.commit {
			t.Errorf("of %d: commit %d; want %d", c.match, r.Commit(), c.commit)
		}
	}
}

// TestP906Side: of those that ask a member stands by the best one, till that is silent for too long; and by a leader first of all.
func TestP906Side(t *testing.T) {
	asks := func(r *Raft, from, index, log int) bool {
		r.Step(Message{Kind: MBegins, From: from, Term: 1, Index: index, Log: log})
		x := r.Ready()
		return x.Messages[len(x.Messages)-1].Ok
	}
	r := newOf(t, wal.Hard{Term: 1, Vote: -1}, 1, 1)
	for i, c := range []struct {
		ticks            int
		from, index, log int
		ok               bool
	}{
		{0, 2, 1, 1, false}, // its log is older
		{0, 2, 2, 1, true},
		{0, 1, 2, 1, true}, // as good, and ahead of it
		{0, 2, 2, 1, false},
		{0, 2, 3, 1, true},
		{0, 1, 2, 1, false},
		{7, 1, 2, 1, false},
		{1, 1, 2, 1, true},
	} {
		r.side.age += c.ticks
		if ok := asks(r, c.from, c.index, c.log); ok != c.ok {
			t.Errorf("%d: %t", i, ok)
		}
	}
	r.Step(Message{Kind: MAppend, From: 2, Term: 1})
	if asks(r, 1, 9, 1) {
		t.Error("it does not stand by its leader")
	}
	r.side.age += 8
	if !asks(r, 1, 9, 1) {
		t.Error("it stands by a leader that is silent")
	}
	if r.Term() != 1 || r.hard.Vote != nobody {
		t.Errorf("term %d, vote %d", r.Term(), r.hard.Vote)
	}
	r.Step(Message{Kind: MAppend, From: 2, Term: 1})
	r.Step(Message{Kind: MAdded, From: 1, Term: 2})
	if !asks(r, 1, 9, 1) {
		t.Error("it stands by the leader of a term that is over")
	}
}

// TestP906SideOfVotes: who asks for votes in its term asks, too.
func TestP906SideOfVotes(t *testing.T) {
	r := newOf(t, wal.Hard{Term: 1, Vote: -1})
	r.Step(Message{Kind: MVote, From: 1, Term: 2})
	r.Ready()
	r.Step(Message{Kind: MBegins, From: 2, Term: 2})
	r.Step(Message{Kind: MBegins, From: 1, Term: 2})
	if x := r.Ready(); x.Messages[0].Ok || !x.Messages[1].Ok {
		t.Errorf("%v", x.Messages)
	}
}

// TestP906FirstWord: who has said that it would vote so has said it, though an older no comes behind it.
func TestP906FirstWord(t *testing.T) {
	r := newOf(t, wal.Hard{Term: 1, Vote: -1})
	r.o.Members, r.roll.base = quorum.Members{1, 1, 1, 1, 1}, quorum.Members{1, 1, 1, 1, 1}
	r.open(MBegins)
	for _, c := range []struct {
		from int
		ok   bool
		term int
	}{{1, true, 1}, {1, false, 1}, {1, true, 1}, {1, false, 1}, {2, false, 1}, {2, true, 2}} {
		r.Step(Message{Kind: MVoted, From: c.from, Term: 1, Hint: MBegins, HintTerm: 1, Ok: c.ok})
		if r.Term() != c.term {
			t.Errorf("%v: term %d", c, r.Term())
		}
	}
}

// TestP902VotesAgain: votes that may still come are asked for once more, then the term is given up.
func TestP902VotesAgain(t *testing.T) {
	r := newOf(t, wal.Hard{Vote: -1})
	r.Tick(5)
	r.Step(Message{Kind: MVoted, From: 1, Hint: MBegins, Ok: true})
	kinds := func() (l [7]int) {
		for _, m := range r.Ready().Messages {
			l[m.Kind]++
		}
		return l
	}
	if l := kinds(); r.Term() != 1 || l != [7]int{MVote: 2} {
		t.Fatalf("term %d, says %v", r.Term(), l)
	}
	r.Tick(5)
	if l := kinds(); r.Term() != 1 || l != [7]int{MVote: 2} {
		t.Fatalf("then term %d, says %v", r.Term(), l)
	}
	r.Tick(5)
	if l := kinds(); r.Term() != 1 || l != [7]int{MBegins: 2} {
		t.Fatalf("at last term %d, says %v", r.Term(), l)
	}
	r.Step(Message{Kind: MVoted, From: 1, Term: 1, Hint: MVote, HintTerm: 1, Ok: true})
	if r.Role() != Candidate || r.Term() != 1 {
		t.Errorf("a vote that came too late: role %d, term %d", r.Role(), r.Term())
	}
	r.Step(Message{Kind: MVoted, From: 2, Term: 1, Hint: MBegins, HintTerm: 0, Ok: true})
	if r.Term() != 1 {
		t.Errorf("an answer to an older question: term %d", r.Term())
	}
	r.Step(Message{Kind: MVoted, From: 2, Term: 0, Hint: MBegins, HintTerm: 1, Ok: true})
	for k := 1; k <= 2; k++ {
		r.Step(Message{Kind: MVoted, From: k, Term: 2, Hint: MVote, HintTerm: 2})
		r.Step(Message{Kind: MVoted, From: k, Term: 2, Hint: MVote, HintTerm: 2})
	}
	kinds()
	r.Tick(5)
	if l := kinds(); r.Term() != 2 || l != [7]int{MBegins: 2} {
		t.Errorf("behind two noes term %d, says %v", r.Term(), l)
	}
}

func TestP903Batches(t *testing.T) {
	r := newOf(t, wal.Hard{Term: 1, Vote: -1})
	for _, n := range []int{1, 2, 3, 4, 5, mostInOne, mostInOne, mostInOne/2 - entryAround, mostInOne/2 - entryAround, 0, mostInOne / 2, mostInOne / 2} {
		r.log.Add(wal.Entry{Term: 1, Data: make([]byte, n)})
	}
	for from, want := range map[int]int{1: 4, 2: 4, 5: 1, 6: 1, 7: 1, 8: 2, 10: 2, 12: 1, 13: 0} {
		if l := r.batch(from); len(l) != want {
			t.Errorf("from %d on: %d; want %d", from, len(l), want)
		}
	}
}
