package raft_test

import (
	"math"
	"testing"

	"teasel/api"
	"teasel/quorum"
	"teasel/raft"
	"teasel/wal"
)

// asksAt tells at which ticks a member asks others for votes, of so many ticks.
func asksAt(r *raft.Raft, ticks int) []int {
	var l []int
	for i := 1; i <= ticks; i++ {
		r.Tick(1)
		if len(r.Ready().Messages) > 0 {
			l = append(l, i)
		}
	}
	return l
}

func TestP902AsksBetweenLoAndHi(t *testing.T) {
	seen := map[int]int{}
	for seed := range uint64(60) {
		o := options(t)
		o.Seed = seed
		r, last := newMember(t, o), 0
		for _, at := range asksAt(r, 400) {
			if at-last < 10 || at-last > 20 {
				t.Fatalf("seed %d: asks at %d, and then %d", seed, last, at)
			}
			seen[at-last]++
			last = at
		}
		if last < 380 || r.Role() != raft.Candidate || r.Term() != 0 || r.Leads() != -1 || r.Commit() != 0 {
			t.Errorf("seed %d: asks at %d last; role %d, term %d", seed, last, r.Role(), r.Term())
		}
	}
	for n := 10; n <= 20; n++ {
		if seen[n] == 0 {
			t.Errorf("it never waits for %d ticks", n)
		}
	}
}

// TestP902SeedsApart: what one draws, another one of another seed does not.
func TestP902SeedsApart(t *testing.T) {
	o := options(t)
	first := asksAt(newMember(t, o), 200)
	again := asksAt(newMember(t, o), 200)
	o.Seed = 2
	other := asksAt(newMember(t, o), 200)
	same := len(first) == len(other)
	for i := range first {
		if i >= len(again) || first[i] != again[i] {
			t.Fatalf("P3: %v, and then %v", first, again)
		}
		same = same && first[i] == other[i]
	}
	if same {
		t.Errorf("of either seed %v", first)
	}
}

// TestP902AsksAllVoters: and nobody else.
func TestP902AsksAllVoters(t *testing.T) {
	o := options(t)
	o.Members = membersOf(t, []int{0, 2, 5, 8}, []int{1, 3})
	r := newMember(t, o)
	r.Tick(20)
	var to []int
	for _, m := range r.Ready().Messages {
		if m.From != 0 {
			t.Errorf("says %v", m)
		}
		to = append(to, m.To)
	}
	if len(to) != 3 || to[0] != 2 || to[1] != 5 || to[2] != 8 {
		t.Errorf("asks %v", to)
	}
}

func TestP902TickNone(t *testing.T) {
	for _, n := range []int{0, -1, 1<<16 + 1, 1 << 40, math.MinInt, math.MaxInt} {
		r := newMember(t, options(t))
		for range 30 {
			r.Tick(n)
		}
		r.Tick(9)
		if r.Role() != raft.Follower || r.Wants() {
			t.Errorf("Tick(%d) is some", n)
		}
	}
	r := newMember(t, options(t))
	r.Tick(1 << 16)
	if r.Role() != raft.Candidate || r.Term() != 0 {
		t.Errorf("Tick(1 << 16): role %d, term %d", r.Role(), r.Term())
	}
}

// TestP902TicksTogether: it is the same whether ticks come one by one.
func TestP902TicksTogether(t *testing.T) {
	a, b := newMember(t, options(t)), newMember(t, options(t))
	for n := range 40 {
		a.Tick(n)
		for range n {
			b.Tick(1)
		}
		if x, y := a.Ready(), b.Ready(); !sameReady(x, y) {
			t.Fatalf("%d: %v; %v", n, x, y)
		}
	}
}

// TestP902OnlyVotersAsk: learners, and who is no member, wait.
func TestP902OnlyVotersAsk(t *testing.T) {
	for _, l := range [][]int{{0}, nil} {
		o := options(t)
		o.Members = membersOf(t, []int{1, 2}, l)
		r := newMember(t, o)
		r.Tick(5000)
		if r.Role() != raft.Follower || r.Term() != 0 || r.Wants() {
			t.Errorf("learners %v: role %d, term %d", l, r.Role(), r.Term())
		}
	}
}

// TestP902Alone: one voter needs nobody else.
func TestP902Alone(t *testing.T) {
	for seed := range uint64(30) {
		o := options(t)
		o.Members, o.Seed = membersOf(t, []int{0}, []int{4}), seed
		r := newMember(t, o)
		r.Tick(9)
		if r.Role() != raft.Follower || r.Term() != 0 {
			t.Fatalf("role %d, term %d ahead of Lo", r.Role(), r.Term())
		}
		r.Tick(11)
		if r.Role() != raft.Leader || r.Leads() != 0 || r.Term() != 1 || r.Last() != 1 || r.Commit() != 1 {
			t.Fatalf("role %d, leads %d, term %d, last %d, commit %d", r.Role(), r.Leads(), r.Term(), r.Last(), r.Commit())
		}
		x := r.Ready()
		if x.Hard != (wal.Hard{Term: 1, Vote: 0, Commit: 1}) || x.From != 1 || len(x.Entries) != 1 || x.First != 1 || !areSame(x.Applied, []wal.Entry{{Term: 1}}) {
			t.Fatalf("%v", x)
		}
	}
}

// TestP902TermGrowsWithMost: asked for its vote, a member gives it ahead of the term; then the term begins.
func TestP902TermGrowsWithMost(t *testing.T) {
	w := newWorld(t, 5, upTo(5), nil)
	for _, m := range w.l[1:] {
		m.crash()
	}
	w.rounds(500)
	if m := w.l[0]; m.r.Role() != raft.Candidate || m.r.Term() != 0 {
		t.Fatalf("alone: role %d, term %d", m.r.Role(), m.r.Term())
	}
	w.start(w.l[1])
	w.rounds(500)
	if w.l[0].r.Term() != 0 || w.l[1].r.Term() != 0 || w.leader() != nil {
		t.Fatalf("two of five: terms %d, %d", w.l[0].r.Term(), w.l[1].r.Term())
	}
	w.start(w.l[2])
	m := w.elect()
	if m.r.Term() == 0 || m.o.Id > 2 {
		t.Errorf("three of five: %d leads in term %d", m.o.Id, m.r.Term())
	}
}

// TestP902LeaderSends: to all, each Beat ticks.
func TestP902LeaderSends(t *testing.T) {
	w := newWorld(t, 5, upTo(3), nil)
	m := w.elect()
	for k := range 2 {
		w.change(m, 3+k, quorum.Learner)
		w.rounds(6)
	}
	r := newBeats(t, m)
	for range 4 {
		r.Tick(m.o.Beat - 1)
		if x := r.Ready(); len(x.Messages) > 0 {
			t.Fatalf("ahead of its tick: %v", x.Messages)
		}
		r.Tick(1)
		var to [9]int
		for _, y := range r.Ready().Messages {
			to[y.To]++
		}
		want := [9]int{1, 1, 1, 1, 1}
		want[m.o.Id] = 0
		if to != want {
			t.Fatalf("sends to %v; want %v", to, want)
		}
	}
}

// newBeats has a leader stand where it has just sent to all.
func newBeats(t *testing.T, m *member) *raft.Raft {
	t.Helper()
	for range m.o.Beat {
		if len(m.r.Ready().Messages) > 0 {
			return m.r
		}
		m.r.Tick(1)
	}
	if len(m.r.Ready().Messages) == 0 {
		t.Fatal("a leader does not send")
	}
	return m.r
}

// TestP902StaysWithItsLeader: who hears of one does not ask.
func TestP902StaysWithItsLeader(t *testing.T) {
	w := newWorld(t, 5, upTo(5), nil)
	m := w.elect()
	term := m.r.Term()
	for range 3000 {
		w.round()
		for _, x := range w.l {
			if x != m && (x.r.Role() != raft.Follower || x.r.Leads() != m.o.Id || x.r.Term() != term) {
				t.Fatalf("%d: role %d, leads %d, term %d", x.o.Id, x.r.Role(), x.r.Leads(), x.r.Term())
			}
		}
	}
}

// TestP902ComesBack: who was cut off has asked in vain, and unseats nobody.
func TestP902ComesBack(t *testing.T) {
	w := newWorld(t, 3, upTo(3), nil)
	m := w.elect()
	term, cut := m.r.Term(), w.l[(m.o.Id+1)%3]
	w.cutOff(cut.o.Id)
	w.rounds(300)
	if cut.r.Role() != raft.Candidate || cut.r.Term() != term {
		t.Fatalf("cut off: role %d, term %d; want %d", cut.r.Role(), cut.r.Term(), term)
	}
	w.lost = nil
	for range 60 {
		w.round()
		if m.r.Role() != raft.Leader || m.r.Term() != term {
			t.Fatalf("behind it: role %d, term %d; want %d", m.r.Role(), m.r.Term(), term)
		}
	}
	if cut.r.Leads() != m.o.Id || cut.r.Last() != m.r.Last() {
		t.Errorf("it follows %d up to %d", cut.r.Leads(), cut.r.Last())
	}
}

// TestP902LaterTerm: a message of a later term ends the own one.
func TestP902LaterTerm(t *testing.T) {
	for _, kind := range []int{raft.MVote, raft.MVoted, raft.MAppend, raft.MAdded} {
		o := options(t)
		o.Members = membersOf(t, []int{0}, []int{1})
		r := newMember(t, o)
		r.Tick(20)
		wantErrno(t, "Step", r.Step(raft.Message{Kind: kind, From: 1, To: 0, Term: 7}), api.OK)
		leads := -1
		if kind == raft.MAppend {
			leads = 1
		}
		if r.Role() != raft.Follower || r.Term() != 7 || r.Leads() != leads {
			t.Errorf("kind %d: role %d, term %d, leads %d", kind, r.Role(), r.Term(), r.Leads())
		}
	}
}

// TestP902EarlierTerm: who leads in a term that is over is told so, and is not heard.
func TestP902EarlierTerm(t *testing.T) {
	for _, kind := range []int{raft.MVote, raft.MAppend, raft.MSnap} {
		r, e := raft.New(options(t), wal.Hard{Term: 5, Vote: -1}, wal.Snap{}, 1)
		wantErrno(t, "New", e, api.OK)
		m := raft.Message{Kind: kind, From: 1, To: 0, Term: 4, Entries: []wal.Entry{{Term: 4}}, Commit: 1}
		m.Snap = wal.Snap{Index: 3, Term: 2, Data: quorum.Encode(options(t).Members)}
		wantErrno(t, "Step", r.Step(m), api.OK)
		x := r.Ready()
		if r.Leads() != -1 || r.Last() != 0 || r.Commit() != 0 || len(x.Messages) != 1 || x.Messages[0].To != 1 || x.Messages[0].Term != 5 || x.Messages[0].Ok {
			t.Errorf("kind %d: %v", kind, x)
		}
	}
	r, _ := raft.New(options(t), wal.Hard{Term: 5, Vote: -1}, wal.Snap{}, 1)
	for _, kind := range []int{raft.MVoted, raft.MAdded} {
		wantErrno(t, "Step", r.Step(raft.Message{Kind: kind, From: 1, To: 0, Term: 4, Ok: true, Index: 1}), api.OK)
		if r.Wants() {
			t.Errorf("kind %d: %v", kind, r.Ready())
		}
	}
}

func TestP902StepErrors(t *testing.T) {
	right := raft.Message{Kind: raft.MAppend, From: 1, To: 0, Term: 3, Entries: []wal.Entry{{Term: 2}, {Term: 3}}}
	snap := raft.Message{Kind: raft.MSnap, From: 1, To: 0, Term: 3, Snap: wal.Snap{Index: 4, Term: 2, Data: quorum.Encode(options(t).Members)}}
	for i, c := range []struct {
		m    raft.Message
		turn func(m *raft.Message)
		e    api.Errno
	}{
		{right, func(m *raft.Message) {}, api.OK},
		{snap, func(m *raft.Message) {}, api.OK},
		{right, func(m *raft.Message) { *m = raft.Message{} }, api.ErrArg},
		{right, func(m *raft.Message) { m.Kind = 0 }, api.ErrArg},
		{right, func(m *raft.Message) { m.Kind = 7 }, api.ErrArg},
		{right, func(m *raft.Message) { m.Kind = -1 }, api.ErrArg},
		{right, func(m *raft.Message) { m.To = 2 }, api.ErrArg},
		{right, func(m *raft.Message) { m.To = -1 }, api.ErrArg},
		{right, func(m *raft.Message) { m.From = 9 }, api.ErrArg},
		{right, func(m *raft.Message) { m.From = -1 }, api.ErrArg},
		{right, func(m *raft.Message) { m.From = 0 }, api.ErrArg},
		{right, func(m *raft.Message) { m.Term = -1 }, api.ErrArg},
		{right, func(m *raft.Message) { m.Term = 1<<40 + 1 }, api.ErrArg},
		{right, func(m *raft.Message) { m.Index = -1 }, api.ErrArg},
		{right, func(m *raft.Message) { m.Log = -1 }, api.ErrArg},
		{right, func(m *raft.Message) { m.Commit = math.MinInt }, api.ErrArg},
		{right, func(m *raft.Message) { m.Hint = math.MaxInt }, api.ErrArg},
		{right, func(m *raft.Message) { m.HintTerm = -5 }, api.ErrArg},
		{right, func(m *raft.Message) { m.Term = 2 }, api.ErrArg}, // with an entry of term 3
		{right, func(m *raft.Message) { m.Log = 3 }, api.ErrArg},  // ahead of one of term 2
		{right, func(m *raft.Message) { m.Entries = []wal.Entry{{Term: 3}, {Term: 2}} }, api.ErrArg},
		{right, func(m *raft.Message) { m.Entries = []wal.Entry{{Term: 0}} }, api.ErrArg},
		{right, func(m *raft.Message) { m.Entries = []wal.Entry{{Term: 3, Data: make([]byte, 1<<18)}} }, api.OK},
		{right, func(m *raft.Message) { m.Entries = []wal.Entry{{Term: 3, Data: make([]byte, 1<<18+1)}} }, api.ErrArg},
		{snap, func(m *raft.Message) { m.Snap.Index = 0 }, api.ErrArg},
		{snap, func(m *raft.Message) { m.Snap.Term = 0 }, api.ErrArg},
		{snap, func(m *raft.Message) { m.Snap.Term = 4 }, api.ErrArg},
		{snap, func(m *raft.Message) { m.Snap.Data = nil }, api.ErrArg},
		{snap, func(m *raft.Message) { m.Snap.Data = m.Snap.Data[:8] }, api.ErrArg},
		{snap, func(m *raft.Message) { m.Snap.Data = make([]byte, 9) }, api.ErrArg},
	} {
		m := c.m
		c.turn(&m)
		r := newMember(t, options(t))
		if e := r.Step(m); e != c.e {
			t.Errorf("%d: %v; want %v", i, e, c.e)
		}
		if c.e != api.OK && (r.Wants() || r.Term() != 0 || r.Leads() != -1) { // P5
			t.Errorf("%d: it was taken", i)
		}
	}
}
