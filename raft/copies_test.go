package raft_test

import (
	"bytes"
	"slices"
	"testing"

	"teasel/api"
	"teasel/quorum"
	"teasel/raft"
	"teasel/wal"
)

// roomy is bytes with spare room behind them.
func roomy(data string) []byte { return append(make([]byte, 0, len(data)+8), data...) }

func spoil(b []byte) {
	b = b[:cap(b)]
	for i := range b {
		b[i] = '!'
	}
}

func spoilEntries(l []wal.Entry) {
	for _, e := range l[:cap(l)] {
		spoil(e.Data)
	}
	l = l[:cap(l)]
	for i := range l {
		l[i] = wal.Entry{Term: -77}
	}
}

// spoilReady writes over all that an answer reaches.
func spoilReady(x raft.Ready) {
	spoilEntries(x.Entries)
	spoilEntries(x.Applied)
	spoil(x.Snap.Data)
	for _, m := range x.Messages[:cap(x.Messages)] {
		spoilEntries(m.Entries)
		spoil(m.Snap.Data)
	}
	clear(x.Messages[:cap(x.Messages)])
}

func copyEntries(l []wal.Entry) []wal.Entry {
	l = slices.Clone(l)
	for i := range l {
		l[i].Data = bytes.Clone(l[i].Data)
	}
	return l
}

// copyReady shares nothing with x.
func copyReady(x raft.Ready) raft.Ready {
	x.Entries, x.Applied, x.Snap.Data = copyEntries(x.Entries), copyEntries(x.Applied), bytes.Clone(x.Snap.Data)
	x.Messages = slices.Clone(x.Messages)
	for i := range x.Messages {
		m := &x.Messages[i]
		m.Entries, m.Snap.Data = copyEntries(m.Entries), bytes.Clone(m.Snap.Data)
	}
	return x
}

// play has two members of three make a history, and tells all that they said. If spoils, what they are handed and what they answer is written over behind each call.
func play(t *testing.T, spoils bool, between func(r *raft.Raft)) []raft.Ready {
	t.Helper()
	var all []raft.Ready
	var l []*raft.Raft
	for k := range 3 {
		o := options(t)
		o.Id, o.Batch = k, 3
		l = append(l, newMember(t, o))
	}
	s, wait := drawer(5), []raft.Message{}
	for i := range 2500 {
		r := l[s.Below(2)]
		if i%500 > 300 {
			r = l[s.Below(3)] // the third one is gone now and then, so that it needs snapshots
		}
		b := roomy("data")
		switch s.Below(8) {
		case 0, 1:
			r.Tick(1)
		case 2:
			r.Propose(b)
		case 3:
			if s.Below(20) == 0 {
				r.Compact(r.Commit(), b)
			}
		default:
			k := s.Below(len(wait) + 1)
			if k == len(wait) || r == l[2] && wait[k].To != 2 {
				break
			}
			m := copyReady(raft.Ready{Messages: wait[k : k+1]}).Messages[0]
			wait = slices.Delete(wait, k, k+1)
			l[m.To].Step(m)
			if spoils {
				spoilReady(raft.Ready{Messages: []raft.Message{m}})
			}
		}
		if spoils {
			spoil(b)
		}
		between(r)
		x := r.Ready()
		all = append(all, copyReady(x))
		for _, m := range copyReady(x).Messages {
			if m.To != 2 || i%500 > 250 {
				wait = append(wait, m)
			}
		}
		if spoils {
			spoilReady(x)
		}
	}
	return all
}

func wantAlike(t *testing.T, a, b []raft.Ready) {
	t.Helper()
	for i := range a {
		if i >= len(b) || !sameReady(a[i], b[i]) {
			t.Fatalf("%d: %v; want %v", i, b[i], a[i])
		}
	}
}

func nothing(r *raft.Raft) {}

// TestP2: what is handed in is not kept, and what is answered is nobody else's.
func TestP2(t *testing.T) {
	first := play(t, false, nothing)
	wantAlike(t, first, play(t, true, nothing))
	var snaps, entries, applied int
	for _, x := range first {
		for _, m := range x.Messages {
			snaps += min(m.Snap.Index, 1)
			entries += len(m.Entries)
		}
		applied += len(x.Applied)
	}
	if snaps == 0 || entries < 50 || applied < 50 {
		t.Errorf("too little happened: %d, %d, %d", snaps, entries, applied)
	}
}

func TestP3(t *testing.T) {
	wantAlike(t, play(t, false, nothing), play(t, false, nothing))
}

// TestP5: calls that answer errors, and those that only tell, change nothing.
func TestP5(t *testing.T) {
	wantAlike(t, play(t, false, nothing), play(t, false, func(r *raft.Raft) {
		long := make([]byte, 1<<18)
		_, e := r.Propose(long)
		wantErrno(t, "Propose", e, api.ErrLong)
		if r.Role() != raft.Leader {
			_, e = r.Propose(nil)
			wantErrno(t, "Propose", e, api.ErrLeader)
		}
		if _, e = r.Change(11, quorum.Voter); e != api.ErrArg && e != api.ErrLeader {
			t.Errorf("Change: %v", e)
		}
		wantErrno(t, "Compact", r.Compact(r.Commit()+1, long), api.ErrArg)
		wantErrno(t, "Compact", r.Compact(0, long), api.ErrArg)
		wantErrno(t, "Step", r.Step(raft.Message{Kind: raft.MVote, From: 1, To: 8, Term: 900}), api.ErrArg)
		wantErrno(t, "Step", r.Step(raft.Message{Kind: 9, Term: 900}), api.ErrArg)
		r.Tick(0)
		r.Wants()
		m := r.Members()
		m[0] = 77
		r.Last()
		r.Leads()
	}))
}

// TestP2New: what was kept stays the caller's.
func TestP2New(t *testing.T) {
	data := func() []byte { return append(quorum.Encode(membersOf(t, upTo(2), nil)), roomy("state")...) }
	own, l := data(), []wal.Entry{{Term: 2, Data: roomy("\x00a")}, {Term: 2, Data: roomy("\x00b")}}
	r, e := raft.New(options(t), wal.Hard{Term: 2, Vote: -1, Commit: 5}, wal.Snap{Index: 4, Term: 1, Data: own}, 5, l...)
	wantErrno(t, "New", e, api.OK)
	spoil(own)
	spoilEntries(l)
	x := r.Ready()
	if x.First != 5 || len(x.Applied) != 1 || x.Applied[0].Term != 2 || bytes.Contains(x.Applied[0].Data, []byte("!")) || r.Members() != membersOf(t, upTo(2), nil) {
		t.Errorf("%v", x)
	}
}

// TestP2Snapshot: what is sent to one that is too far behind is what was kept, or handed in.
func TestP2Snapshot(t *testing.T) {
	o := options(t)
	o.Members = membersOf(t, upTo(1), []int{1})
	first := append(quorum.Encode(o.Members), roomy("state")...)
	r, e := raft.New(o, wal.Hard{Term: 2, Vote: -1, Commit: 4}, wal.Snap{Index: 4, Term: 1, Data: first}, 5)
	wantErrno(t, "New", e, api.OK)
	spoil(first)
	r.Tick(20)
	for _, want := range []string{"state", "state", "later", "later"} {
		if want == "later" && r.Ready().Hard.Commit == 5 {
			b := roomy(want)
			r.Compact(5, b)
			spoil(b)
		}
		r.Ready()
		for range 2 {
			r.Step(raft.Message{Kind: raft.MAdded, From: 1, To: 0, Term: 3, Index: 5, Hint: 1})
			r.Step(raft.Message{Kind: raft.MAdded, From: 1, To: 0, Term: 3, Index: 4, Hint: 1})
		}
		x := r.Ready()
		if len(x.Messages) != 1 || x.Messages[0].Kind != raft.MSnap || string(x.Messages[0].Snap.Data[9:]) != want {
			t.Errorf("%v; want %s", x.Messages, want)
		}
		spoilReady(x)
	}
}

func TestP2Bytes(t *testing.T) {
	m := messages()[0]
	b := raft.Text(m)
	y, _ := raft.Read(b)
	spoil(b)
	if !sameMessages(m, y) {
		t.Error("Read keeps what it is handed")
	}
	again := raft.Text(m)
	spoilEntries(y.Entries)
	spoil(y.Snap.Data)
	if !bytes.Equal(again, raft.Text(m)) {
		t.Error("Text's bytes changed")
	}
}
