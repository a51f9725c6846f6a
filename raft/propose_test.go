package raft_test

import (
	"math"
	"strings"
	"testing"

	"teasel/api"
	"teasel/quorum"
	"teasel/raft"
)

func TestP902ProposeErrors(t *testing.T) {
	w := newWorld(t, 3, upTo(3), nil)
	m := w.elect()
	follower := w.l[(m.o.Id+1)%3]
	longest := make([]byte, 1<<18-16)
	for _, c := range []struct {
		r    *raft.Raft
		data []byte
		e    api.Errno
	}{
		{follower.r, nil, api.ErrLeader},
		{follower.r, longest, api.ErrLeader},
		{follower.r, make([]byte, 1<<18-15), api.ErrLong},
		{m.r, make([]byte, 1<<18-15), api.ErrLong},
		{m.r, make([]byte, 1<<18), api.ErrLong},
		{m.r, longest, api.OK},
		{m.r, nil, api.OK},
	} {
		last := c.r.Last()
		index, e := c.r.Propose(c.data)
		if e != c.e || e != api.OK && (index != 0 || c.r.Last() != last || c.r.Wants()) {
			t.Errorf("Propose of %d bytes: %d, %v; want %v", len(c.data), index, e, c.e)
		}
		if e == api.OK && (index != last+1 || c.r.Last() != index) {
			t.Errorf("Propose of %d bytes: %d; want %d", len(c.data), index, last+1)
		}
	}
	w.take(m)
	for _, x := range m.l {
		if len(x.Data) > 1<<18 {
			t.Errorf("an entry has %d bytes", len(x.Data))
		}
	}
	w.rounds(6)
	if at := m.r.Last(); m.told[at-1] != string(longest) || m.told[at] != "" || m.at != at {
		t.Errorf("up to %d is applied of %d", m.at, at)
	}
}

// TestP902ProposeFull: so many may wait, and as soon as some are committed others may.
func TestP902ProposeFull(t *testing.T) {
	w := newWorld(t, 3, upTo(3), func(o *raft.Options) { o.Batch = 64 })
	m := w.elect()
	for k := range w.l {
		if k != m.o.Id {
			w.l[k].crash()
		}
	}
	for range 1 << 10 {
		w.propose(m, "x")
	}
	for range 2 {
		if index, e := m.r.Propose([]byte("y")); e != api.ErrFull || index != 0 {
			t.Fatalf("%d, %v; want full", index, e)
		}
	}
	if _, e := m.r.Propose(make([]byte, 1<<18)); e != api.ErrLong {
		t.Errorf("%v; want long", e)
	}
	for _, x := range w.l {
		if !x.up {
			w.start(x)
		}
	}
	w.rounds(60)
	if m.r.Role() != raft.Leader || m.r.Commit() != m.r.Last() {
		t.Fatalf("role %d, commit %d of %d", m.r.Role(), m.r.Commit(), m.r.Last())
	}
	w.propose(m, "y")
}

// TestP902ProposeNumbers: one behind the other, and applied in that order.
func TestP902ProposeNumbers(t *testing.T) {
	w := newWorld(t, 5, upTo(5), nil)
	m := w.elect()
	first := m.r.Last() + 1
	for i := range 50 {
		if at, e := m.r.Propose([]byte{byte(i)}); at != first+i || e != api.OK {
			t.Fatalf("%d, %v; want %d", at, e, first+i)
		}
	}
	w.rounds(20)
	for i := range 50 {
		for _, x := range w.l {
			if x.told[first+i] != string(rune(i)) {
				t.Errorf("%d applied %q at %d", x.o.Id, x.told[first+i], first+i)
			}
		}
	}
}

func TestP902ChangeErrors(t *testing.T) {
	w := newWorld(t, 5, upTo(3), nil)
	m := w.elect()
	self, other := m.o.Id, (m.o.Id+1)%3
	for _, c := range []struct {
		r          *raft.Raft
		node, role int
		e          api.Errno
	}{
		{w.l[other].r, 4, quorum.Learner, api.ErrLeader},
		{w.l[other].r, 99, 99, api.ErrLeader},
		{m.r, 9, quorum.Learner, api.ErrArg},
		{m.r, -1, quorum.Learner, api.ErrArg},
		{m.r, 4, 3, api.ErrArg},
		{m.r, 4, -1, api.ErrArg},
		{m.r, math.MaxInt, math.MinInt, api.ErrArg},
		{m.r, 4, quorum.None, api.ErrUsed},
		{m.r, self, quorum.Voter, api.ErrUsed},
		{m.r, 4, quorum.Voter, api.ErrNot},
		{m.r, other, quorum.Learner, api.ErrNot},
		{m.r, self, quorum.Learner, api.ErrNot},
		{m.r, self, quorum.None, api.ErrNot},
	} {
		last := c.r.Last()
		index, e := c.r.Change(c.node, c.role)
		if e != c.e || index != 0 || c.r.Last() != last || c.r.Wants() || c.r.Members() != m.o.Members {
			t.Errorf("Change(%d, %d): %d, %v; want %v", c.node, c.role, index, e, c.e)
		}
	}
	w.change(m, 4, quorum.Learner)
	for _, c := range []struct {
		node, role int
		e          api.Errno
	}{{3, quorum.Learner, api.ErrNot}, {4, quorum.Voter, api.ErrNot}, {other, quorum.None, api.ErrNot}, {4, quorum.Learner, api.ErrUsed}, {9, 0, api.ErrArg}} {
		if _, e := m.r.Change(c.node, c.role); e != c.e {
			t.Errorf("behind a change, Change(%d, %d): %v; want %v", c.node, c.role, e, c.e)
		}
	}
	w.rounds(6)
	w.change(m, 4, quorum.Voter)
}

// TestP902ChangeFirstOfTerm: not ahead of an entry of its own term that is committed.
func TestP902ChangeFirstOfTerm(t *testing.T) {
	w := newWorld(t, 3, upTo(3), nil)
	m := w.elect()
	m.crash()
	for w.leader() == nil {
		w.round()
	}
	m = w.leader()
	if _, e := m.r.Change(5, quorum.Learner); e != api.ErrNot || m.r.Commit() == m.r.Last() {
		t.Fatalf("%v, commit %d of %d; want not", e, m.r.Commit(), m.r.Last())
	}
	if _, e := m.r.Propose([]byte("a")); e != api.OK {
		t.Errorf("Propose: %v", e)
	}
	w.rounds(6)
	if _, e := m.r.Change(5, quorum.Learner); e != api.OK {
		t.Errorf("behind it: %v", e)
	}
}

// TestP902ChangeOfAnotherTerm: a change that an earlier leader has left waits still.
func TestP902ChangeOfAnotherTerm(t *testing.T) {
	w := newWorld(t, 4, upTo(3), nil)
	m := w.elect()
	heir := w.l[(m.o.Id+1)%3]
	index, e := m.r.Change(3, quorum.Learner)
	wantErrno(t, "Change", e, api.OK)
	w.lost = func(x raft.Message) bool { return x.To != heir.o.Id || x.Kind != raft.MAppend }
	w.take(m)
	w.rounds(1)
	w.lost = nil
	w.wait = nil
	m.crash()
	if heir.r.Last() != index || heir.r.Commit() >= index || heir.r.Members() != membersOf(t, upTo(3), []int{3}) {
		t.Fatalf("%d of %d came, %d are committed; members %v", heir.r.Last(), index, heir.r.Commit(), heir.r.Members())
	}
	for w.leader() == nil {
		w.round()
	}
	if w.leader() != heir {
		t.Fatal("another one leads, whose log is older")
	}
	if _, e := heir.r.Change(3, quorum.None); e != api.ErrNot {
		t.Errorf("%v; want not", e)
	}
	w.rounds(6)
	if _, e := heir.r.Change(3, quorum.None); e != api.OK {
		t.Errorf("behind it: %v", e)
	}
}

// TestP902ChangeHoldsAtOnce: from the moment it is in the log.
func TestP902ChangeHoldsAtOnce(t *testing.T) {
	w := newWorld(t, 3, []int{0, 1}, nil)
	m := w.elect()
	other := w.l[1-m.o.Id]
	w.change(m, 2, quorum.Learner)
	if m.r.Members() != membersOf(t, upTo(2), []int{2}) || m.r.Commit() == m.r.Last() {
		t.Fatalf("members %v, commit %d of %d", m.r.Members(), m.r.Commit(), m.r.Last())
	}
	w.rounds(6)
	if w.l[2].r.Members() != m.r.Members() || w.l[2].r.Last() != m.r.Last() {
		t.Errorf("the learner has %d of %d", w.l[2].r.Last(), m.r.Last())
	}
	other.crash()
	at := w.propose(m, "a")
	w.rounds(40)
	if m.r.Commit() >= at {
		t.Fatal("a learner counted")
	}
	w.change(m, other.o.Id, quorum.None)
	if m.r.Commit() != m.r.Last() || m.told[at] != "a" {
		t.Errorf("alone: commit %d of %d", m.r.Commit(), m.r.Last())
	}
	w.change(m, 2, quorum.Voter)
	at = w.propose(m, "b")
	if m.r.Commit() >= at {
		t.Error("the new voter did not count")
	}
	w.rounds(6)
	if m.told[at] != "b" || w.l[2].told[at] != "b" {
		t.Error("the new voter does not count")
	}
}

// TestP902ChangeIsTakenBack: a change that another leader's entries replace holds no more.
func TestP902ChangeIsTakenBack(t *testing.T) {
	w := newWorld(t, 4, upTo(3), nil)
	m := w.elect()
	w.cutOff(m.o.Id)
	w.change(m, 3, quorum.Learner)
	w.rounds(60)
	if m.r.Members() == m.o.Members {
		t.Fatal("it does not hold")
	}
	w.lost = nil
	w.rounds(60)
	if m.r.Role() == raft.Leader || m.r.Members() != m.o.Members || m.r.Commit() != w.leader().r.Commit() {
		t.Errorf("role %d, members %v", m.r.Role(), m.r.Members())
	}
}

// TestP902RemovedOne: who is no member any more does not unseat the others.
func TestP902RemovedOne(t *testing.T) {
	w := newWorld(t, 4, upTo(4), nil)
	m := w.elect()
	term := m.r.Term()
	w.change(m, (m.o.Id+1)%4, quorum.None)
	w.rounds(400)
	at := w.propose(m, "a")
	w.rounds(6)
	if m.r.Role() != raft.Leader || m.r.Term() != term || m.told[at] != "a" {
		t.Errorf("role %d, term %d; want %d", m.r.Role(), m.r.Term(), term)
	}
}

// TestP902LaterQuestion: not even if its term is a later one.
func TestP902LaterQuestion(t *testing.T) {
	w := newWorld(t, 4, upTo(4), nil)
	m := w.elect()
	gone := w.l[(m.o.Id+1)%4]
	w.change(m, gone.o.Id, quorum.None)
	w.rounds(10)
	gone.crash()
	gone.hard.Term, gone.hard.Vote = 50, -1
	w.start(gone)
	w.rounds(200)
	if term := m.r.Term(); m.r.Role() != raft.Leader || term >= 50 || gone.r.Term() != 50 || gone.r.Role() != raft.Candidate {
		t.Errorf("role %d, term %d; the other one: %d, %d", m.r.Role(), term, gone.r.Role(), gone.r.Term())
	}
}

// TestP902Grow: from one node to nine, and to another one alone.
func TestP902Grow(t *testing.T) {
	w := newWorld(t, 9, upTo(1), nil)
	m := w.elect()
	for k := 1; k < 9; k++ {
		w.propose(m, strings.Repeat("x", k))
		for _, role := range []int{quorum.Learner, quorum.Voter} {
			w.change(m, k, role)
			w.rounds(10)
		}
	}
	first := m
	first.crash()
	m = w.elect() // another one must lead for the first one to go
	w.start(first)
	for k := range 9 {
		if m = w.elect(); m.o.Id != k {
			w.change(m, k, quorum.None)
			w.rounds(10)
		}
	}
	at := w.propose(m, "end")
	if m == first || m.told[at] != "end" || m.r.Members() != membersOf(t, []int{m.o.Id}, nil) {
		t.Errorf("%d leads; members %v", m.o.Id, m.r.Members())
	}
}
