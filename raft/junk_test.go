package raft_test

import (
	"math"
	"testing"

	"teasel/api"
	"teasel/draws"
	"teasel/quorum"
	"teasel/raft"
	"teasel/wal"
)

// junk draws a message that may be none, or one that no member would send.
func junk(t *testing.T, s *draws.Source) raft.Message {
	far := []int{math.MinInt, -1, 0, 1 << 40, 1<<40 + 1, math.MaxInt}
	n := func() int {
		if s.Below(40) == 0 {
			return far[s.Below(len(far))]
		}
		return s.Below(12)
	}
	m := raft.Message{Kind: s.Between(1, 6), From: s.Between(1, 4), Term: n(), Index: n(), Log: s.Below(5), Commit: n(), Ok: s.Below(2) == 0, Hint: n(), HintTerm: n()}
	if s.Below(30) == 0 {
		m.Kind, m.From, m.To = n(), n(), n()
	}
	term := m.Log
	for range s.Below(5) {
		term += s.Below(2)
		m.Entries = append(m.Entries, wal.Entry{Term: term, Data: []byte{byte(s.Below(3)), 1, 2}})
		if s.Below(3) == 0 {
			who := membersOf(t, upTo(s.Between(1, 4)), nil)
			m.Entries[len(m.Entries)-1].Data = append([]byte{byte(s.Below(3))}, quorum.Encode(who)...)
		}
	}
	m.Snap = wal.Snap{Index: n(), Term: s.Below(6), Data: append(quorum.Encode(membersOf(t, upTo(s.Between(1, 4)), nil)), 7)}
	return m
}

// TestP1Junk: whatever a member is handed, it ends, and what it hands out fits together.
func TestP1Junk(t *testing.T) {
	for seed := range uint64(300) {
		s := drawer(seed)
		o := options(t)
		o.Members, o.Seed = membersOf(t, upTo(s.Between(1, 3)), []int{3}), seed
		m := &member{o: o, hard: wal.Hard{Vote: -1}}
		m.r = newMember(t, o)
		for i := range 300 {
			switch x := s.Below(20); x {
			case 0:
				m.r.Tick(s.Between(1, 15))
			case 1:
				m.r.Propose([]byte{1})
			case 2:
				m.r.Change(s.Between(-1, 9), s.Between(-1, 3))
			case 3:
				m.r.Compact(s.Between(m.r.Commit()-3, m.r.Commit()+1), []byte{2})
			default:
				m.r.Step(junk(t, s))
			}
			if s.Below(3) == 0 {
				keepAll(t, m)
			}
			if t.Failed() {
				t.Fatalf("seed %d, %d", seed, i)
			}
		}
	}
}

// keepAll keeps what a member says, and has another one know that.
func keepAll(t *testing.T, m *member) {
	t.Helper()
	x := m.r.Ready()
	w := &world{t: t}
	snap := x.Snap
	x.Snap = wal.Snap{}
	if snap.Index > m.snap.Index {
		k := snap.Index - m.snap.Index
		if k <= len(m.l) && m.l[k-1].Term == snap.Term {
			m.l = m.l[k:]
		} else {
			m.l = nil
		}
		m.snap = snap
	}
	w.keep(m, x)
	if m.r.Wants() {
		t.Errorf("P903: wants more: %v", m.r.Ready())
	}
	r, e := raft.New(m.o, m.hard, m.snap, m.snap.Index+1, m.l...)
	if e != api.OK || r.Last() != m.r.Last() || r.Term() != m.r.Term() || r.Commit() != m.r.Commit() || r.Members() != m.r.Members() {
		t.Errorf("P901: %v of %v, %v, %v", e, m.hard, m.snap, m.l)
	}
	for _, y := range x.Messages {
		if _, err := raft.Read(raft.Text(y)); err != nil || y.From != 0 || y.To == 0 {
			t.Errorf("P903: says %v: %v", y, err)
		}
	}
}

// TestP1Declared: a member that New did not make is none, and does nothing.
func TestP1Declared(t *testing.T) {
	var r raft.Raft
	r.Tick(100)
	r.Step(raft.Message{Kind: raft.MAppend, From: 1, Term: 3, Entries: []wal.Entry{{Term: 3}}, Commit: 1})
	r.Propose(nil)
	r.Change(1, 1)
	r.Compact(1, nil)
	r.Ready()
	if r.Wants() || r.Role() != raft.Follower || r.Members() != (quorum.Members{}) {
		t.Error("a member that is declared")
	}
}
