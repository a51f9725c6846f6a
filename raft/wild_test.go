package raft_test

import (
	"slices"
	"testing"

	"teasel/draws"
	"teasel/quorum"
	"teasel/raft"
)

// wild lets anything happen to members: messages lost, doubled, out of order, nodes cut from each other, gone, and back with what they kept.
type wild struct {
	*world
	*draws.Source
	cut map[[2]int]bool
}

func (w *wild) move(i int) {
	w.t.Helper()
	m := w.l[w.Below(len(w.l))]
	switch x := w.Below(24); {
	case x < 9 && len(w.wait) > 0:
		w.deliver()
	case x < 13 && m.up:
		m.r.Tick(w.Between(1, 3))
		w.takeSome(m)
	case x < 16 && m.up:
		m.r.Propose([]byte{byte(i), byte(i >> 8)})
		w.takeSome(m)
	case x == 16 && m.up && w.Below(3) == 0:
		m.crash()
	case x == 17 && !m.up:
		w.start(m)
		w.take(m)
	case x == 18 && m.up:
		m.r.Change(w.Below(len(w.l)), w.Below(3))
		w.takeSome(m)
	case x == 19 && m.up && w.Below(2) == 0:
		w.take(m)
		if m.at > m.snap.Index {
			w.compact(m, w.Between(m.snap.Index+1, m.at))
		}
	case x == 20 && w.Below(4) == 0:
		w.cut[[2]int{w.Below(len(w.l)), w.Below(len(w.l))}] = true
	case x == 21 && w.Below(4) == 0:
		clear(w.cut)
	case x > 21:
		w.round()
	}
}

// takeSome takes what a member says, or not yet, or keeps it and is gone ahead of sending.
func (w *wild) takeSome(m *member) {
	w.t.Helper()
	switch w.Below(8) {
	case 0:
	case 1:
		n := len(w.wait)
		w.take(m)
		w.wait = slices.Delete(w.wait, n, len(w.wait))
		m.crash()
	default:
		w.take(m)
	}
}

// deliver hands a message on, or loses it, or lets it wait all the same.
func (w *wild) deliver() {
	w.t.Helper()
	k := w.Below(len(w.wait))
	if w.Below(2) == 0 {
		k = min(k, 3)
	}
	x := w.wait[k]
	if w.Below(6) > 0 {
		w.wait = slices.Delete(w.wait, k, k+1)
	}
	if w.Below(8) > 0 && !w.cut[[2]int{x.From, x.To}] {
		if w.l[x.To].up && w.Below(4) == 0 {
			w.l[x.To].r.Step(x)
			w.takeSome(w.l[x.To]) // several messages may come ahead of one Ready
			return
		}
		w.hand(x)
	}
}

// newWild has up to 9 nodes, some of which may be no members in the beginning.
func newWild(t *testing.T, seed uint64) *wild {
	s := drawer(seed)
	n := s.Between(1, 9)
	voters := upTo(s.Between(1, n))
	lo := s.Between(2, 6)
	hi := lo + s.Below(6)
	beat, batch, apart := s.Between(1, lo-1), s.Between(1, 5), s.Below(2)
	w := newWorld(t, n, voters, func(o *raft.Options) {
		o.Lo, o.Hi, o.Beat, o.Batch, o.Seed = lo, hi, beat, batch, seed+uint64(o.Id*apart)
	})
	return &wild{w, s, map[[2]int]bool{}}
}

// TestP905Wild, P906: whatever happens, members agree (world holds that at each step); and when it is calm then, they go on.
func TestP905Wild(t *testing.T) {
	seeds := uint64(400)
	for seed := range seeds {
		w := newWild(t, seed)
		for i := range 1500 {
			w.move(i)
			if t.Failed() {
				t.Fatalf("seed %d, move %d", seed, i)
			}
		}
		w.calmDown(seed)
	}
}

func (w *wild) calmDown(seed uint64) {
	w.t.Helper()
	for _, m := range w.l {
		if !m.up {
			w.start(m)
		}
		w.take(m)
	}
	hi := w.l[0].o.Hi
	w.rounds(20 * hi)
	m := w.leader()
	if m == nil {
		w.t.Fatalf("P906: seed %d: nobody leads", seed)
	}
	at := w.propose(m, "end")
	w.rounds(2*hi + 6)
	for k, role := range m.r.Members() {
		if role != quorum.None && w.l[k].told[at] != "end" {
			w.t.Fatalf("P906: seed %d: %d has not applied what was proposed at %d, %d", seed, k, m.o.Id, at)
		}
	}
	if x := w.leader(); x != m {
		w.t.Fatalf("P906: seed %d: %d leads behind %d in calm", seed, x.o.Id, m.o.Id)
	}
}
