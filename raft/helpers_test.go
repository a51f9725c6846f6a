package raft_test

import (
	"bytes"
	"hash/fnv"
	"slices"
	"testing"

	"teasel/api"
	"teasel/draws"
	"teasel/quorum"
	"teasel/raft"
	"teasel/wal"
)

func membersOf(t *testing.T, voters, learners []int) quorum.Members {
	t.Helper()
	m, e := quorum.Of(voters, learners)
	if e != api.OK {
		t.Fatalf("Of(%v, %v): %v", voters, learners, e)
	}
	return m
}

// upTo is 0 to n - 1.
func upTo(n int) []int {
	var l []int
	for k := range n {
		l = append(l, k)
	}
	return l
}

func wantErrno(t *testing.T, call string, e, want api.Errno) {
	t.Helper()
	if e != want {
		t.Errorf("%s: %v; want %v", call, e, want)
	}
}

func isSame(a, b wal.Entry) bool { return a.Term == b.Term && bytes.Equal(a.Data, b.Data) }

func areSame(a, b []wal.Entry) bool { return slices.EqualFunc(a, b, isSame) }

func sameSnaps(a, b wal.Snap) bool {
	return a.Index == b.Index && a.Term == b.Term && bytes.Equal(a.Data, b.Data)
}

func sameMessages(a, b raft.Message) bool {
	return a.Kind == b.Kind && a.From == b.From && a.To == b.To && a.Term == b.Term &&
		a.Index == b.Index && a.Log == b.Log && a.Commit == b.Commit && a.Ok == b.Ok &&
		a.Hint == b.Hint && a.HintTerm == b.HintTerm && areSame(a.Entries, b.Entries) && sameSnaps(a.Snap, b.Snap)
}

func sameReady(a, b raft.Ready) bool {
	return a.Hard == b.Hard && a.From == b.From && areSame(a.Entries, b.Entries) && sameSnaps(a.Snap, b.Snap) &&
		slices.EqualFunc(a.Messages, b.Messages, sameMessages) && areSame(a.Applied, b.Applied) && a.First == b.First
}

// member is one, with what it has kept, and what it was told.
type member struct {
	r    *raft.Raft
	o    raft.Options
	hard wal.Hard
	snap wal.Snap
	l    []wal.Entry
	up   bool
	at   int // the last entry that it has applied
	told map[int]string
}

// world is members, and messages that wait. What it promises of them all (P905) is held at each step.
type world struct {
	t    *testing.T
	l    []*member
	wait []raft.Message
	lead map[int]int       // who led in a term
	all  map[int]wal.Entry // what was applied anywhere
	who  map[int]quorum.Members
	lost func(x raft.Message) bool // nil: none
}

// newWorld has a member a node, of which those are voters ahead of all changes.
func newWorld(t *testing.T, n int, voters []int, turn func(o *raft.Options)) *world {
	t.Helper()
	w := &world{t: t, lead: map[int]int{}, all: map[int]wal.Entry{}, who: map[int]quorum.Members{}}
	for k := range n {
		o := raft.Options{Id: k, Members: membersOf(t, voters, nil), Lo: 4, Hi: 9, Beat: 2, Batch: 3, Seed: uint64(k)}
		if turn != nil {
			turn(&o)
		}
		m := &member{o: o, hard: wal.Hard{Vote: -1}}
		w.l = append(w.l, m)
		w.start(m)
	}
	w.who[0] = w.l[0].o.Members
	return w
}

// start has a member come back with what it has kept.
func (w *world) start(m *member) {
	w.t.Helper()
	r, e := raft.New(m.o, m.hard, m.snap, m.snap.Index+1, m.l...)
	if e != api.OK {
		w.t.Fatalf("P901: %d: %v: %v, %v, %v", m.o.Id, e, m.hard, m.snap, m.l)
	}
	if r.Role() != raft.Follower || r.Leads() != -1 || r.Term() != m.hard.Term || r.Last() != m.last() || r.Commit() != max(m.hard.Commit, m.snap.Index) {
		w.t.Fatalf("P901: %d: role %d, leads %d, term %d, last %d, commit %d", m.o.Id, r.Role(), r.Leads(), r.Term(), r.Last(), r.Commit())
	}
	m.r, m.up, m.at, m.told = r, true, m.snap.Index, map[int]string{}
}

func (m *member) last() int { return m.snap.Index + len(m.l) }

// digest is what a machine has made of all entries up to one.
func (w *world) digest(index int) []byte {
	h := fnv.New64a()
	for i := 1; i <= index; i++ {
		e := w.all[i]
		h.Write([]byte{byte(e.Term), byte(len(e.Data))})
		h.Write(e.Data)
	}
	return h.Sum(nil)
}

// take keeps, sends, notes what a member says.
func (w *world) take(m *member) {
	w.t.Helper()
	for m.r.Wants() {
		x := m.r.Ready()
		w.keep(m, x)
		w.apply(m, x)
		for _, y := range x.Messages {
			w.lay(m, y)
		}
	}
	if x := m.r.Ready(); !sameReady(x, raft.Ready{Hard: m.hard}) {
		w.t.Fatalf("P903: %d wants nothing, but says %v", m.o.Id, x)
	}
	w.check(m)
}

// keep does as a wal does.
func (w *world) keep(m *member, x raft.Ready) {
	w.t.Helper()
	if x.Hard.Term < m.hard.Term || x.Hard.Term == m.hard.Term && m.hard.Vote >= 0 && x.Hard.Vote != m.hard.Vote || x.Hard.Commit < m.hard.Commit {
		w.t.Fatalf("P905: %d: %v behind %v", m.o.Id, x.Hard, m.hard)
	}
	m.hard = x.Hard
	if x.Snap.Index > 0 {
		w.keepSnap(m, x.Snap)
	}
	if x.From == 0 {
		if len(x.Entries) > 0 {
			w.t.Fatalf("P903: %d: entries from nowhere on: %v", m.o.Id, x.Entries)
		}
		return
	}
	if x.From <= m.snap.Index || x.From > m.last()+1 {
		w.t.Fatalf("P903: %d: entries from %d on; there are %d to %d", m.o.Id, x.From, m.snap.Index+1, m.last())
	}
	m.l = append(slices.Clone(m.l[:x.From-m.snap.Index-1]), x.Entries...)
}

func (w *world) keepSnap(m *member, s wal.Snap) {
	w.t.Helper()
	if s.Index <= m.snap.Index || s.Index > m.hard.Commit || len(s.Data) < 9 {
		w.t.Fatalf("P903: %d: snapshot of %d, %d bytes; kept %d, commit %d", m.o.Id, s.Index, len(s.Data), m.snap.Index, m.hard.Commit)
	}
	if who, e := quorum.Decode(s.Data[:9]); e != api.OK || who != w.whoAt(s.Index) {
		w.t.Fatalf("P903: %d: snapshot of %d: members %v, %v; want %v", m.o.Id, s.Index, who, e, w.whoAt(s.Index))
	}
	if !bytes.Equal(s.Data[9:], w.digest(s.Index)) {
		w.t.Fatalf("P903: %d: snapshot of %d: %x", m.o.Id, s.Index, s.Data)
	}
	k := s.Index - m.snap.Index
	if k <= len(m.l) && m.l[k-1].Term == s.Term {
		m.l = slices.Clone(m.l[k:])
	} else {
		m.l = nil
	}
	m.snap = s
	m.at = max(m.at, s.Index)
}

// whoAt tells the members behind an entry, by what was applied.
func (w *world) whoAt(index int) quorum.Members {
	for ; index > 0; index-- {
		if who, is := w.who[index]; is {
			return who
		}
	}
	return w.who[0]
}

func (w *world) apply(m *member, x raft.Ready) {
	w.t.Helper()
	if len(x.Applied) == 0 {
		if x.First != 0 {
			w.t.Fatalf("P903: %d: nothing from %d on", m.o.Id, x.First)
		}
		return
	}
	if x.First != m.at+1 || x.First+len(x.Applied)-1 > m.hard.Commit {
		w.t.Fatalf("P903: %d: %d from %d on are applied, behind %d, commit %d", m.o.Id, len(x.Applied), x.First, m.at, m.hard.Commit)
	}
	for _, e := range x.Applied {
		m.at++
		if old, is := w.all[m.at]; is && !isSame(old, e) {
			w.t.Fatalf("P905: %d: at %d %v is applied, elsewhere %v", m.o.Id, m.at, e, old)
		}
		w.all[m.at] = e
		m.told[m.at] = string(e.Data)
		if who, is := raft.Config(m.l[m.at-m.snap.Index-1].Data); is {
			w.who[m.at] = who
			if len(e.Data) > 0 {
				w.t.Fatalf("P903: %d: at %d members are changed by %v", m.o.Id, m.at, e)
			}
		}
	}
}

// lay has a message wait, as its bytes tell it.
func (w *world) lay(m *member, x raft.Message) {
	w.t.Helper()
	y, err := raft.Read(raft.Text(x))
	if err != nil || !sameMessages(x, y) {
		w.t.Fatalf("P904: %v, %v; want %v", y, err, x)
	}
	if x.From != m.o.Id || x.To == m.o.Id || x.To < 0 || x.To >= len(w.l) || len(x.Entries) > m.o.Batch {
		w.t.Fatalf("P903: %d says %v", m.o.Id, x)
	}
	w.wait = append(w.wait, y)
}

// check holds what is seen of a member against what it has kept, and against the others.
func (w *world) check(m *member) {
	w.t.Helper()
	r := m.r
	if r.Term() != m.hard.Term || r.Commit() != m.hard.Commit || r.Last() != m.last() || m.at != r.Commit() {
		w.t.Fatalf("P904: %d: term %d, commit %d, last %d, applied %d; kept %v, %d", m.o.Id, r.Term(), r.Commit(), r.Last(), m.at, m.hard, m.last())
	}
	if r.Role() != raft.Leader {
		if r.Leads() == m.o.Id || r.Role() == raft.Candidate && r.Leads() != -1 {
			w.t.Fatalf("P904: %d: role %d, leads %d", m.o.Id, r.Role(), r.Leads())
		}
		return
	}
	if k, is := w.lead[r.Term()]; is && k != m.o.Id {
		w.t.Fatalf("P905: %d and %d lead in term %d", k, m.o.Id, r.Term())
	}
	if r.Leads() != m.o.Id {
		w.t.Fatalf("P904: %d leads, but says %d", m.o.Id, r.Leads())
	}
	w.lead[r.Term()] = m.o.Id
}

func (w *world) tick(m *member, n int) {
	w.t.Helper()
	if m.up {
		m.r.Tick(n)
		w.take(m)
	}
}

// hand gives a message to whom it is for; who is down loses it.
func (w *world) hand(x raft.Message) {
	w.t.Helper()
	if m := w.l[x.To]; m.up && (w.lost == nil || !w.lost(x)) {
		wantErrno(w.t, "P902: Step", m.r.Step(x), api.OK)
		w.take(m)
	}
}

// round lets a tick go by, and hands on all messages that wait then.
func (w *world) round() {
	w.t.Helper()
	for _, m := range w.l {
		w.tick(m, 1)
	}
	l := w.wait
	w.wait = nil
	for _, x := range l {
		w.hand(x)
	}
}

func (w *world) rounds(n int) {
	w.t.Helper()
	for range n {
		w.round()
	}
}

// leader is who leads in the greatest term; nil, if nobody leads.
func (w *world) leader() *member {
	var best *member
	for _, m := range w.l {
		if m.up && m.r.Role() == raft.Leader && (best == nil || m.r.Term() > best.r.Term()) {
			best = m
		}
	}
	return best
}

// elect goes on till somebody leads, and all that is in the log is applied everywhere.
func (w *world) elect() *member {
	w.t.Helper()
	w.rounds(20 * w.l[0].o.Hi)
	m := w.leader()
	if m == nil {
		w.t.Fatal("P906: nobody leads")
	}
	return m
}

func (w *world) propose(m *member, data string) int {
	w.t.Helper()
	index, e := m.r.Propose([]byte(data))
	wantErrno(w.t, "P902: Propose", e, api.OK)
	if index != m.r.Last() {
		w.t.Errorf("P902: Propose: %d; want %d", index, m.r.Last())
	}
	w.take(m)
	return index
}

func (w *world) change(m *member, node, role int) {
	w.t.Helper()
	index, e := m.r.Change(node, role)
	wantErrno(w.t, "P902: Change", e, api.OK)
	if index != m.r.Last() {
		w.t.Errorf("P902: Change: %d; want %d", index, m.r.Last())
	}
	w.take(m)
}

// compact has a member compact its log up to an entry.
func (w *world) compact(m *member, index int) {
	w.t.Helper()
	wantErrno(w.t, "P903: Compact", m.r.Compact(index, w.digest(index)), api.OK)
	w.take(m)
}

// cutOff has nothing come to a node, or from it.
func (w *world) cutOff(k int) {
	w.lost = func(x raft.Message) bool { return x.To == k || x.From == k }
}

// crash takes from a member all that it has not kept.
func (m *member) crash() { m.up = false }

// drawer draws for tests.
func drawer(seed uint64) *draws.Source { return draws.New(seed) }
