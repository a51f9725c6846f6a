package raft_test

import (
	"math"
	"testing"

	"teasel/api"
	"teasel/quorum"
	"teasel/raft"
	"teasel/wal"
)

// options are of node 0 of three voters.
func options(t *testing.T) raft.Options {
	return raft.Options{Id: 0, Members: membersOf(t, upTo(3), nil), Lo: 10, Hi: 20, Beat: 3, Batch: 4, Seed: 1}
}

func newMember(t *testing.T, o raft.Options) *raft.Raft {
	t.Helper()
	r, e := raft.New(o, wal.Hard{Vote: -1}, wal.Snap{}, 1)
	if e != api.OK || r == nil {
		t.Fatalf("New(%v): %v", o, e)
	}
	return r
}

func TestP901Options(t *testing.T) {
	for i, c := range []struct {
		turn func(o *raft.Options)
		e    api.Errno
	}{
		{func(o *raft.Options) {}, api.OK},
		{func(o *raft.Options) { o.Id = 8 }, api.OK},
		{func(o *raft.Options) { o.Id = 9 }, api.ErrArg},
		{func(o *raft.Options) { o.Id = -1 }, api.ErrArg},
		{func(o *raft.Options) { o.Members = quorum.Members{} }, api.ErrArg},
		{func(o *raft.Options) { o.Members[1] = 3 }, api.ErrArg},
		{func(o *raft.Options) { o.Members = quorum.Members{quorum.Learner} }, api.ErrArg},
		{func(o *raft.Options) { o.Members = quorum.Members{8: quorum.Voter} }, api.OK},
		{func(o *raft.Options) { o.Lo, o.Hi, o.Beat = 1, 5, 1 }, api.ErrArg},
		{func(o *raft.Options) { o.Lo, o.Hi, o.Beat = 2, 2, 1 }, api.OK},
		{func(o *raft.Options) { o.Lo, o.Hi = 1000, 1000 }, api.OK},
		{func(o *raft.Options) { o.Lo, o.Hi = 1001, 1001 }, api.ErrArg},
		{func(o *raft.Options) { o.Lo = -10 }, api.ErrArg},
		{func(o *raft.Options) { o.Hi = 10 }, api.OK},
		{func(o *raft.Options) { o.Hi = 9 }, api.ErrArg},
		{func(o *raft.Options) { o.Hi = 2000 }, api.OK},
		{func(o *raft.Options) { o.Hi = 2001 }, api.ErrArg},
		{func(o *raft.Options) { o.Beat = 1 }, api.OK},
		{func(o *raft.Options) { o.Beat = 0 }, api.ErrArg},
		{func(o *raft.Options) { o.Beat = 9 }, api.OK},
		{func(o *raft.Options) { o.Beat = 10 }, api.ErrArg},
		{func(o *raft.Options) { o.Beat = math.MinInt }, api.ErrArg},
		{func(o *raft.Options) { o.Batch = 1 }, api.OK},
		{func(o *raft.Options) { o.Batch = 0 }, api.ErrArg},
		{func(o *raft.Options) { o.Batch = 64 }, api.OK},
		{func(o *raft.Options) { o.Batch = 65 }, api.ErrArg},
		{func(o *raft.Options) { o.Seed = math.MaxUint64 }, api.OK},
	} {
		o := options(t)
		c.turn(&o)
		r, e := raft.New(o, wal.Hard{Vote: -1}, wal.Snap{}, 1)
		if e != c.e || (r == nil) != (e != api.OK) {
			t.Errorf("%d: %v: %v, %v; want %v", i, o, r, e, c.e)
		}
	}
}

func TestP901Kept(t *testing.T) {
	three := []wal.Entry{{Term: 2}, {Term: 2}, {Term: 4}}
	snap := wal.Snap{Index: 5, Term: 3, Data: append(quorum.Encode(membersOf(t, []int{0, 4}, nil)), "state"...)}
	for i, c := range []struct {
		h     wal.Hard
		s     wal.Snap
		first int
		l     []wal.Entry
		e     api.Errno
	}{
		{wal.Hard{Vote: -1}, wal.Snap{}, 1, nil, api.OK},
		{wal.Hard{}, wal.Snap{}, 1, nil, api.OK}, // it has voted for 0
		{wal.Hard{Vote: 8}, wal.Snap{}, 1, nil, api.OK},
		{wal.Hard{Vote: 9}, wal.Snap{}, 1, nil, api.ErrArg},
		{wal.Hard{Vote: -2}, wal.Snap{}, 1, nil, api.ErrArg},
		{wal.Hard{Term: -1, Vote: -1}, wal.Snap{}, 1, nil, api.ErrArg},
		{wal.Hard{Vote: -1}, wal.Snap{}, 0, nil, api.ErrArg},
		{wal.Hard{Vote: -1}, wal.Snap{}, 2, nil, api.ErrArg},
		{wal.Hard{Vote: -1, Commit: 1}, wal.Snap{}, 1, nil, api.ErrArg},
		{wal.Hard{Vote: -1, Commit: -1}, wal.Snap{}, 1, nil, api.ErrArg},
		{wal.Hard{Term: 4, Vote: -1, Commit: 3}, wal.Snap{}, 1, three, api.OK},
		{wal.Hard{Term: 4, Vote: -1, Commit: 4}, wal.Snap{}, 1, three, api.ErrArg},
		{wal.Hard{Term: 9, Vote: 2, Commit: 1}, wal.Snap{}, 1, three, api.OK},
		{wal.Hard{Term: 3, Vote: -1}, wal.Snap{}, 1, three, api.ErrArg},
		{wal.Hard{Term: 4, Vote: -1}, wal.Snap{}, 1, []wal.Entry{{Term: 4}, {Term: 2}}, api.ErrArg},
		{wal.Hard{Term: 4, Vote: -1}, wal.Snap{}, 1, []wal.Entry{{Term: 0}}, api.ErrArg},
		{wal.Hard{Term: 4, Vote: -1}, wal.Snap{}, 1, []wal.Entry{{Term: -1}}, api.ErrArg},
		{wal.Hard{Term: 3, Vote: -1, Commit: 5}, snap, 6, nil, api.OK},
		{wal.Hard{Term: 3, Vote: -1}, snap, 6, nil, api.OK}, // the snapshot was kept, and no hard state since
		{wal.Hard{Term: 3, Vote: -1, Commit: 6}, snap, 6, nil, api.ErrArg},
		{wal.Hard{Term: 2, Vote: -1, Commit: 5}, snap, 6, nil, api.ErrArg},
		{wal.Hard{Term: 3, Vote: -1, Commit: 5}, snap, 5, nil, api.ErrArg},
		{wal.Hard{Term: 3, Vote: -1, Commit: 5}, snap, 1, nil, api.ErrArg},
		{wal.Hard{Term: 4, Vote: -1, Commit: 6}, snap, 6, []wal.Entry{{Term: 3}, {Term: 4}}, api.OK},
		{wal.Hard{Term: 4, Vote: -1, Commit: 6}, snap, 6, []wal.Entry{{Term: 2}, {Term: 4}}, api.ErrArg},
		{wal.Hard{Term: 4, Vote: -1}, wal.Snap{Index: 5}, 6, nil, api.ErrArg},
		{wal.Hard{Term: 4, Vote: -1}, wal.Snap{Term: 5}, 1, nil, api.ErrArg},
		{wal.Hard{Term: 4, Vote: -1}, wal.Snap{Index: -1, Term: -1}, 0, nil, api.ErrArg},
	} {
		r, e := raft.New(options(t), c.h, c.s, c.first, c.l...)
		if e != c.e || (r == nil) != (e != api.OK) {
			t.Errorf("%d: %v; want %v", i, e, c.e)
		}
		if r == nil || e != api.OK {
			continue
		}
		last, commit := c.s.Index+len(c.l), max(c.h.Commit, c.s.Index)
		if r.Role() != raft.Follower || r.Leads() != -1 || r.Term() != c.h.Term || r.Last() != last || r.Commit() != commit {
			t.Errorf("%d: %d, %d, %d, %d, %d", i, r.Role(), r.Leads(), r.Term(), r.Last(), r.Commit())
		}
	}
}

// changeOf is an entry's Data that makes such members of three voters, as a log has it.
func changeOf(t *testing.T, node, role int) []byte {
	t.Helper()
	w := newWorld(t, 5, upTo(3), nil)
	w.change(w.elect(), node, role)
	l := w.leader().l
	return l[len(l)-1].Data
}

func TestP901Members(t *testing.T) {
	o := options(t)
	learns, goes := changeOf(t, 4, quorum.Learner), changeOf(t, 1, quorum.None)
	if m, is := raft.Config(learns); !is || m != membersOf(t, upTo(3), []int{4}) {
		t.Errorf("Config(%v): %v, %v", learns, m, is)
	}
	of := membersOf(t, []int{0, 4}, nil)
	snap := wal.Snap{Index: 5, Term: 3, Data: append(quorum.Encode(of), "state"...)}
	some := wal.Entry{Term: 3}
	for i, c := range []struct {
		s    wal.Snap
		l    []wal.Entry
		want quorum.Members
	}{
		{wal.Snap{}, nil, o.Members},
		{wal.Snap{}, []wal.Entry{some}, o.Members},
		{wal.Snap{Data: snap.Data}, nil, o.Members}, // none was kept
		{snap, nil, of},
		{snap, []wal.Entry{some, some}, of},
		{wal.Snap{Index: 5, Term: 3, Data: snap.Data[:9]}, nil, of},
		{wal.Snap{Index: 5, Term: 3, Data: snap.Data[:8]}, nil, o.Members},
		{wal.Snap{Index: 5, Term: 3, Data: make([]byte, 12)}, nil, o.Members},
		{wal.Snap{}, []wal.Entry{some, {Term: 3, Data: learns}, some}, membersOf(t, upTo(3), []int{4})},
		{snap, []wal.Entry{{Term: 3, Data: learns}, {Term: 3, Data: goes}, some}, membersOf(t, []int{0, 2}, nil)},
		{snap, []wal.Entry{{Term: 3, Data: goes}, {Term: 3, Data: learns}}, membersOf(t, upTo(3), []int{4})},
	} {
		r, e := raft.New(o, wal.Hard{Term: 3, Vote: -1}, c.s, c.s.Index+1, c.l...)
		if e != api.OK || r.Members() != c.want {
			t.Errorf("%d: %v, %v; want %v", i, e, r.Members(), c.want)
		}
	}
}

// TestP901Config: what is proposed changes no members, whatever it looks like.
func TestP901Config(t *testing.T) {
	learns := changeOf(t, 4, quorum.Learner)
	for _, b := range [][]byte{nil, {}, {0}, {1}, {2, 3}, learns[:len(learns)-1], append([]byte{7}, learns...), append(learns[:len(learns):len(learns)], 0), make([]byte, 9), make([]byte, 10)} {
		if m, is := raft.Config(b); is || m != (quorum.Members{}) {
			t.Errorf("Config(%v): %v, %v", b, m, is)
		}
	}
	w := newWorld(t, 1, upTo(1), nil)
	m := w.elect()
	for _, b := range [][]byte{learns, nil, {0}, {1}, {9, 1}, quorum.Encode(m.o.Members)} {
		at := w.propose(m, string(b))
		if _, is := raft.Config(m.l[at-1].Data); is || m.r.Members() != m.o.Members || m.told[at] != string(b) {
			t.Errorf("%v is applied as %q", b, m.told[at])
		}
	}
}

// TestP901TellsWhatIsCommitted: what was kept as committed is told anew, behind the snapshot.
func TestP901TellsWhatIsCommitted(t *testing.T) {
	w := newWorld(t, 3, upTo(3), nil)
	m := w.elect()
	for _, data := range []string{"a", "b", "c"} {
		w.propose(m, data)
	}
	w.rounds(4)
	w.compact(m, 2)
	m.crash()
	w.start(m)
	if !m.r.Wants() {
		t.Fatal("wants nothing")
	}
	x := m.r.Ready()
	want := raft.Ready{Hard: m.hard, First: 3, Applied: []wal.Entry{{Term: 1, Data: []byte("b")}, {Term: 1, Data: []byte("c")}}}
	if !sameReady(x, want) || m.r.Wants() {
		t.Errorf("%v; want %v", x, want)
	}
	if x := m.r.Ready(); !sameReady(x, raft.Ready{Hard: m.hard}) {
		t.Errorf("then %v", x)
	}
}

// TestP901VoteIsKept: who has voted does not vote for another one in that term.
func TestP901VoteIsKept(t *testing.T) {
	for _, c := range []struct {
		vote int
		ok   bool
	}{{-1, true}, {1, true}, {0, false}, {2, false}} {
		r, e := raft.New(options(t), wal.Hard{Term: 4, Vote: c.vote}, wal.Snap{}, 1)
		wantErrno(t, "New", e, api.OK)
		wantErrno(t, "Step", r.Step(raft.Message{Kind: raft.MVote, From: 1, To: 0, Term: 4}), api.OK)
		x := r.Ready()
		if len(x.Messages) != 1 || x.Messages[0].Kind != raft.MVoted || x.Messages[0].To != 1 || x.Messages[0].Ok != c.ok {
			t.Errorf("vote %d: %v", c.vote, x.Messages)
		}
		if c.ok && x.Hard != (wal.Hard{Term: 4, Vote: 1}) || !c.ok && x.Hard.Vote != c.vote {
			t.Errorf("vote %d: then %v", c.vote, x.Hard)
		}
	}
}
