package raft_test

import (
	"bytes"
	"math"
	"testing"

	"teasel/api"
	"teasel/quorum"
	"teasel/raft"
	"teasel/wal"
)

// alone is a leader of a group of one voter, and a learner that is not there.
func alone(t *testing.T) (*world, *member) {
	t.Helper()
	w := newWorld(t, 2, upTo(1), nil)
	w.l[1].crash()
	m := w.elect()
	w.change(m, 1, quorum.Learner)
	return w, m
}

func TestP903ReadyOnce(t *testing.T) {
	w, m := alone(t)
	w.take(m)
	at, e := m.r.Propose([]byte("a"))
	wantErrno(t, "Propose", e, api.OK)
	if !m.r.Wants() {
		t.Error("wants nothing")
	}
	x := m.r.Ready()
	if x.Hard != (wal.Hard{Term: 1, Vote: 0, Commit: at}) || x.From != at || len(x.Entries) != 1 || x.Snap.Index != 0 {
		t.Errorf("%v", x)
	}
	if x.First != at || !areSame(x.Applied, []wal.Entry{{Term: 1, Data: []byte("a")}}) {
		t.Errorf("applied from %d on: %v", x.First, x.Applied)
	}
	if y := m.r.Ready(); m.r.Wants() || !sameReady(y, raft.Ready{Hard: x.Hard}) {
		t.Errorf("then %v", y)
	}
}

// TestP903Nothing: of a new member there is nothing, but its hard state.
func TestP903Nothing(t *testing.T) {
	for _, h := range []wal.Hard{{Vote: -1}, {Term: 3, Vote: 2}} {
		r, _ := raft.New(options(t), h, wal.Snap{}, 1)
		if x := r.Ready(); r.Wants() || !sameReady(x, raft.Ready{Hard: h}) {
			t.Errorf("%v", x)
		}
	}
}

func TestP903CompactErrors(t *testing.T) {
	w, m := alone(t)
	for range 5 {
		w.propose(m, "a")
	}
	w.compact(m, 3)
	at := m.r.Commit()
	for _, index := range []int{math.MinInt, -1, 0, 1, 2, 3, at + 1, at + 2, math.MaxInt} {
		if e := m.r.Compact(index, []byte("no")); e != api.ErrArg || m.r.Wants() {
			t.Errorf("Compact(%d): %v; want arg", index, e)
		}
	}
	m.r.Propose([]byte("b"))
	if m.r.Commit() != at+1 {
		t.Fatalf("commit %d", m.r.Commit())
	}
	wantErrno(t, "Compact of what was not told", m.r.Compact(at+1, nil), api.ErrArg)
	w.take(m)
	wantErrno(t, "Compact", m.r.Compact(at+1, nil), api.OK)
	wantErrno(t, "Compact again", m.r.Compact(at+1, nil), api.ErrArg)
	if m.r.Last() != at+1 || m.r.Commit() != at+1 {
		t.Errorf("last %d, commit %d", m.r.Last(), m.r.Commit())
	}
}

// TestP903CompactTells: a snapshot is to be kept, with the members as they were there.
func TestP903CompactTells(t *testing.T) {
	w, m := alone(t)
	w.propose(m, "a")
	before := m.r.Members()
	at := m.r.Last()
	w.change(m, 1, quorum.Voter) // it is not committed: the other one is not there
	for _, c := range []struct {
		index int
		of    quorum.Members
		data  string
	}{{1, membersOf(t, upTo(1), nil), "one"}, {2, before, ""}, {at, before, "three"}} {
		wantErrno(t, "Compact", m.r.Compact(c.index, []byte(c.data)), api.OK)
		want := wal.Snap{Index: c.index, Term: 1, Data: append(quorum.Encode(c.of), c.data...)}
		if x := m.r.Ready(); !sameReady(x, raft.Ready{Hard: m.hard, Snap: want}) {
			t.Errorf("%v; want %v", x, want)
		}
		if m.r.Wants() || m.r.Members() != membersOf(t, upTo(2), nil) {
			t.Errorf("members %v", m.r.Members())
		}
	}
	if m.r.Last() != at+1 || m.r.Commit() != at {
		t.Errorf("last %d, commit %d", m.r.Last(), m.r.Commit())
	}
}

// TestP903CompactLast: of several snapshots the last one is told.
func TestP903CompactLast(t *testing.T) {
	_, m := alone(t)
	wantErrno(t, "Compact", m.r.Compact(1, []byte("one")), api.OK)
	wantErrno(t, "Compact", m.r.Compact(2, []byte("two")), api.OK)
	if x := m.r.Ready(); x.Snap.Index != 2 || !bytes.HasSuffix(x.Snap.Data, []byte("two")) {
		t.Errorf("%v", x.Snap)
	}
}

// TestP903SnapshotIsSent: who is too far behind gets it in place of entries, and those behind it.
func TestP903SnapshotIsSent(t *testing.T) {
	for seed := range uint64(20) {
		w := newWorld(t, 4, upTo(3), func(o *raft.Options) { o.Seed += seed * 10 })
		m := w.elect()
		late := w.l[(m.o.Id+1)%3]
		late.crash()
		for i := range 10 {
			w.propose(m, string(rune('a'+i)))
		}
		w.rounds(10)
		w.change(m, 3, quorum.Learner)
		w.rounds(20)
		w.compact(m, m.at-int(seed%4))
		at := w.propose(m, "end")
		if seed%2 == 0 {
			m.crash() // another one leads then, and has its snapshot or all entries
			w.start(m)
		}
		w.start(late)
		snaps := 0
		w.lost = func(x raft.Message) bool {
			if x.Kind == raft.MSnap {
				snaps++
			}
			return snaps == 1 && x.Kind == raft.MSnap // the first one is lost
		}
		w.elect()
		for _, x := range []*member{late, w.l[3]} {
			if x.at < at || x.r.Members() != m.r.Members() {
				t.Errorf("seed %d: %d has applied %d of %d; members %v", seed, x.o.Id, x.at, at, x.r.Members())
			}
		}
	}
}

// TestP903SnapshotIsToldFirst: ahead of the entries behind it, and of what it stands for nothing is told.
func TestP903SnapshotIsToldFirst(t *testing.T) {
	of := membersOf(t, []int{0, 1}, []int{5})
	s := wal.Snap{Index: 7, Term: 2, Data: append(quorum.Encode(of), "state"...)}
	r := newMember(t, options(t))
	for _, m := range []raft.Message{
		{Kind: raft.MAppend, From: 1, To: 0, Term: 2, Entries: []wal.Entry{{Term: 1}, {Term: 1}}, Commit: 1},
		{Kind: raft.MSnap, From: 1, To: 0, Term: 2, Snap: s, Commit: 9},
		{Kind: raft.MAppend, From: 1, To: 0, Term: 2, Index: 7, Log: 2, Entries: []wal.Entry{{Term: 2}, {Term: 2}, {Term: 2}}, Commit: 9},
	} {
		wantErrno(t, "Step", r.Step(m), api.OK)
	}
	if r.Members() != of || r.Commit() != 9 || r.Last() != 10 || r.Leads() != 1 {
		t.Errorf("members %v, commit %d, last %d, leads %d", r.Members(), r.Commit(), r.Last(), r.Leads())
	}
	x := r.Ready()
	if !sameSnaps(x.Snap, s) || x.From != 8 || len(x.Entries) != 3 || x.First != 8 || len(x.Applied) != 2 || x.Hard != (wal.Hard{Term: 2, Vote: -1, Commit: 9}) {
		t.Errorf("%v", x)
	}
	for i, y := range x.Messages {
		if y.Kind != raft.MAdded || !y.Ok || y.Index != []int{2, 7, 10}[i] {
			t.Errorf("%d: says %v", i, y)
		}
	}
	wantErrno(t, "Compact", r.Compact(8, nil), api.OK)
	old := raft.Message{Kind: raft.MSnap, From: 1, To: 0, Term: 2, Snap: s}
	r.Ready()
	wantErrno(t, "Step", r.Step(old), api.OK)
	if x := r.Ready(); x.Snap.Index != 0 || x.From != 0 || len(x.Applied) > 0 || r.Commit() != 9 || r.Last() != 10 {
		t.Errorf("behind an old one: %v", x)
	}
}

// TestP903EntriesReplaced: entries that stand no more are handed out as such, and all that stands behind them.
func TestP903EntriesReplaced(t *testing.T) {
	r := newMember(t, options(t))
	step := func(m raft.Message) raft.Ready {
		m.Kind, m.To = raft.MAppend, 0
		wantErrno(t, "Step", r.Step(m), api.OK)
		return r.Ready()
	}
	one, two := wal.Entry{Term: 1, Data: []byte("x")}, wal.Entry{Term: 2, Data: []byte("y")}
	if x := step(raft.Message{From: 1, Term: 1, Entries: []wal.Entry{one, one, one}}); x.From != 1 || len(x.Entries) != 3 || len(x.Applied) > 0 {
		t.Errorf("%v", x)
	}
	if x := step(raft.Message{From: 2, Term: 2, Index: 1, Log: 1, Entries: []wal.Entry{two}, Commit: 9}); x.From != 2 || !areSame(x.Entries, []wal.Entry{two}) || x.First != 1 || len(x.Applied) != 2 || r.Last() != 2 {
		t.Errorf("%v", x)
	}
	// An old message, which comes once more, takes nothing away.
	if x := step(raft.Message{From: 2, Term: 2, Entries: []wal.Entry{one}}); x.From != 0 || len(x.Entries) > 0 || r.Last() != 2 || !x.Messages[0].Ok {
		t.Errorf("%v", x)
	}
	// What does not fit is refused, with where to ask next.
	if x := step(raft.Message{From: 2, Term: 2, Index: 5, Log: 2, Entries: []wal.Entry{two}}); x.From != 0 || r.Last() != 2 || x.Messages[0].Ok || x.Messages[0].Hint != 3 {
		t.Errorf("%v", x)
	}
}

// TestP903KeptAhead: messages come with what must be kept ahead of them, or behind it.
func TestP903KeptAhead(t *testing.T) {
	r := newMember(t, options(t))
	wantErrno(t, "Step", r.Step(raft.Message{Kind: raft.MVote, From: 2, To: 0, Term: 3}), api.OK)
	if x := r.Ready(); x.Hard != (wal.Hard{Term: 3, Vote: 2}) || len(x.Messages) != 1 || !x.Messages[0].Ok {
		t.Errorf("a vote: %v", x)
	}
	wantErrno(t, "Step", r.Step(raft.Message{Kind: raft.MVote, From: 1, To: 0, Term: 3}), api.OK)
	if x := r.Ready(); x.Hard.Vote != 2 || x.Messages[0].Ok {
		t.Errorf("a second vote: %v", x)
	}
	wantErrno(t, "Step", r.Step(raft.Message{Kind: raft.MAppend, From: 2, To: 0, Term: 3, Entries: []wal.Entry{{Term: 3}}}), api.OK)
	if x := r.Ready(); x.From != 1 || len(x.Entries) != 1 || !x.Messages[0].Ok || x.Messages[0].Index != 1 {
		t.Errorf("an entry: %v", x)
	}
	wantErrno(t, "Step", r.Step(raft.Message{Kind: raft.MVote, From: 1, To: 0, Term: 4}), api.OK)
	if x := r.Ready(); x.Hard != (wal.Hard{Term: 4, Vote: -1}) || x.Messages[0].Ok {
		t.Errorf("of an older log: %v", x)
	}
}

// TestP903LongEntries: a batch of them gets through a net all the same.
func TestP903LongEntries(t *testing.T) {
	w := newWorld(t, 2, upTo(2), func(o *raft.Options) { o.Batch = 64 })
	m := w.elect()
	for range 20 {
		m.r.Propose(make([]byte, 1<<18-16))
	}
	w.take(m)
	for _, x := range w.wait {
		if n := len(raft.Text(x)); n > 1<<20 {
			t.Fatalf("a message of %d bytes", n)
		}
	}
	w.rounds(30)
	if m.r.Commit() != m.r.Last() || w.l[1-m.o.Id].at != m.r.Last() {
		t.Errorf("commit %d of %d", m.r.Commit(), m.r.Last())
	}
}

// TestP903MembersOfSnapshot: changes that stood behind another entry than the snapshot's are no more; others stay.
func TestP903MembersOfSnapshot(t *testing.T) {
	learns := changeOf(t, 4, quorum.Learner)
	of := membersOf(t, []int{0, 1}, nil)
	for _, c := range []struct {
		term int
		want quorum.Members
	}{{1, membersOf(t, upTo(3), []int{4})}, {2, of}} {
		r := newMember(t, options(t))
		for _, m := range []raft.Message{
			{Kind: raft.MAppend, From: 1, To: 0, Term: 3, Entries: []wal.Entry{{Term: 1}, {Term: 1}, {Term: 1, Data: learns}}},
			{Kind: raft.MSnap, From: 1, To: 0, Term: 3, Snap: wal.Snap{Index: 2, Term: c.term, Data: quorum.Encode(of)}},
		} {
			wantErrno(t, "Step", r.Step(m), api.OK)
		}
		if r.Members() != c.want {
			t.Errorf("term %d: members %v; want %v", c.term, r.Members(), c.want)
		}
	}
}

// TestP905OldMessages: what is committed stays, whatever an old message says; and what is behind it is taken.
func TestP905OldMessages(t *testing.T) {
	r := newMember(t, options(t))
	one := wal.Entry{Term: 1}
	l := []wal.Entry{one, one, one, one, one, one}
	wantErrno(t, "Step", r.Step(raft.Message{Kind: raft.MAppend, From: 1, To: 0, Term: 2, Entries: l, Commit: 5}), api.OK)
	r.Ready()
	wantErrno(t, "Compact", r.Compact(4, nil), api.OK)
	r.Ready()
	for i, c := range []struct {
		index, log  int
		l           []wal.Entry
		match, last int
	}{
		{0, 0, l[:2], 5, 6},
		{2, 1, nil, 5, 6},
		{2, 1, l[:4], 6, 6},
		{1, 1, []wal.Entry{one, one, one, one, one, {Term: 2}}, 7, 7},
		{2, 1, []wal.Entry{{Term: 2}, {Term: 2}, {Term: 2}}, 5, 7}, // no leader has such ones
	} {
		wantErrno(t, "Step", r.Step(raft.Message{Kind: raft.MAppend, From: 1, To: 0, Term: 2, Index: c.index, Log: c.log, Entries: c.l}), api.OK)
		x := r.Ready()
		if len(x.Messages) != 1 || !x.Messages[0].Ok || x.Messages[0].Index != c.match || r.Last() != c.last || r.Commit() != 5 {
			t.Errorf("%d: %v; last %d", i, x, r.Last())
		}
	}
}

// TestP905LeaderLeads: nobody else leads in its term, whatever a message says.
func TestP905LeaderLeads(t *testing.T) {
	_, m := alone(t)
	for _, kind := range []int{raft.MAppend, raft.MSnap} {
		x := raft.Message{Kind: kind, From: 1, To: 0, Term: 1, Snap: wal.Snap{Index: 50, Term: 1, Data: quorum.Encode(m.o.Members)}}
		wantErrno(t, "Step", m.r.Step(x), api.OK)
		if m.r.Role() != raft.Leader || m.r.Leads() != 0 || m.r.Wants() {
			t.Errorf("role %d, leads %d", m.r.Role(), m.r.Leads())
		}
	}
}
