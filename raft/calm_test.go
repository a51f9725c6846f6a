package raft_test

import (
	"slices"
	"testing"

	"teasel/draws"
	"teasel/quorum"
	"teasel/raft"
)

// parts is how many parts a tick has, within which messages are handed on.
const parts = 10

// calm hands each message on within a tick, and loses none. Members tick once a tick, at whatever part of it.
type calm struct {
	*world
	*draws.Source
	phase []int
	now   int
	due   []int // of each message that waits
	delay func() int
}

func newCalm(w *world, seed uint64, delay func(s *draws.Source) int) *calm {
	c := &calm{world: w, Source: drawer(seed)}
	aligned := c.Below(2) == 0
	for range w.l {
		c.phase = append(c.phase, c.Below(parts))
		if aligned {
			c.phase[len(c.phase)-1] = 0
		}
	}
	c.delay = func() int { return delay(c.Source) }
	return c
}

// part goes on by a part of a tick: members and messages come in any order.
func (c *calm) part() {
	c.t.Helper()
	c.now++
	for _, m := range c.l {
		if m.up && c.phase[m.o.Id] == c.now%parts {
			c.tick(m, 1)
		}
		if c.Below(2) == 0 {
			c.handDue()
		}
	}
	c.handDue()
}

func (c *calm) handDue() {
	c.t.Helper()
	for {
		for len(c.due) < len(c.wait) {
			c.due = append(c.due, c.now+c.delay())
		}
		var ripe []int
		for k, at := range c.due {
			if at <= c.now {
				ripe = append(ripe, k)
			}
		}
		if len(ripe) == 0 {
			return
		}
		k := ripe[c.Below(len(ripe))]
		x := c.wait[k]
		c.wait, c.due = slices.Delete(c.wait, k, k+1), slices.Delete(c.due, k, k+1)
		c.hand(x)
	}
}

func (c *calm) ticks(n int) {
	c.t.Helper()
	for range n * parts {
		c.part()
	}
}

// hold asks for what P906 promises, and that who leads then leads on.
func (c *calm) hold() {
	c.t.Helper()
	hi := c.l[0].o.Hi
	c.ticks(20 * hi)
	m := c.leader()
	if m == nil {
		c.t.Fatalf("P906: nobody leads; %v", c.l[0].o)
	}
	term, at := m.r.Term(), c.propose(m, "end")
	c.ticks(2*hi + 4)
	for k, role := range m.r.Members() {
		if role != quorum.None && c.l[k].up && c.l[k].told[at] != "end" {
			c.t.Fatalf("P906: %d has not applied what was proposed at %d, %d; %v", k, m.o.Id, at, m.o)
		}
	}
	c.ticks(5 * hi)
	if c.leader() != m || m.r.Term() != term {
		c.t.Fatalf("P906: %d led in term %d, and then %d; %v", m.o.Id, term, c.leader().o.Id, m.o)
	}
}

// delays are ways to hand on within a tick.
func delays() []func(s *draws.Source) int {
	return []func(s *draws.Source) int{
		func(s *draws.Source) int { return 0 },
		func(s *draws.Source) int { return parts - 1 },
		func(s *draws.Source) int { return s.Below(parts) },
		func(s *draws.Source) int { return s.Below(2) * (parts - 1) },
		func(s *draws.Source) int {
			if s.Below(8) == 0 {
				return 0
			}
			return parts - 1
		},
	}
}

// TestP906WhateverIsDrawn: even if all draw the same, again and again.
func TestP906WhateverIsDrawn(t *testing.T) {
	for i, o := range []raft.Options{
		{Lo: 2, Hi: 2, Beat: 1}, {Lo: 2, Hi: 3, Beat: 1}, {Lo: 3, Hi: 3, Beat: 2}, {Lo: 4, Hi: 4, Beat: 3},
		{Lo: 5, Hi: 5, Beat: 1}, {Lo: 2, Hi: 12, Beat: 1}, {Lo: 10, Hi: 20, Beat: 9}, {Lo: 20, Hi: 20, Beat: 4},
	} {
		for n := 1; n <= 9; n++ {
			for k, delay := range delays() {
				for apart := range 2 {
					w := newWorld(t, n, upTo(n), func(own *raft.Options) {
						own.Lo, own.Hi, own.Beat, own.Batch = o.Lo, o.Hi, o.Beat, 1+n
						own.Seed = uint64(i + own.Id*apart)
					})
					newCalm(w, uint64(i+n*10+k*100), delay).hold()
				}
			}
		}
	}
}

// TestP906Patient: the longest waits that are promised of.
func TestP906Patient(t *testing.T) {
	for _, o := range []raft.Options{{Lo: 2, Hi: 999, Beat: 1}, {Lo: 999, Hi: 999, Beat: 998}, {Lo: 500, Hi: 999, Beat: 100}} {
		w := newWorld(t, 4, upTo(4), func(own *raft.Options) {
			own.Lo, own.Hi, own.Beat, own.Seed = o.Lo, o.Hi, o.Beat, 7
		})
		w.elect()
	}
}

// TestP906SomeDown: a majority is enough, whoever they are.
func TestP906SomeDown(t *testing.T) {
	for n := 1; n <= 7; n++ {
		for down := range 1 << n {
			w := newWorld(t, n, upTo(n), func(o *raft.Options) { o.Lo, o.Hi, o.Seed = 5, 5, 1 })
			gone := 0
			for k, m := range w.l {
				if down>>k&1 == 1 {
					m.crash()
					gone++
				}
			}
			if n-gone <= n/2 {
				w.rounds(20 * 5)
				if w.leader() != nil {
					t.Errorf("P905: of %d without %b one leads", n, down)
				}
				continue
			}
			newCalm(w, uint64(down), delays()[3]).hold()
		}
	}
}

// TestP906BehindWild: whatever was ahead of it, with members that do not know each other, and terms and logs that are apart.
func TestP906BehindWild(t *testing.T) {
	for seed := range uint64(150) {
		w := newWild(t, seed+10000)
		for i := range 600 {
			w.move(i)
		}
		for _, m := range w.l {
			if !m.up {
				w.start(m)
			}
			w.take(m)
		}
		newCalm(w.world, seed, delays()[seed%5]).hold()
	}
}

// TestP906OneAfterTheOther: who leads goes, again and again, as long as most are there.
func TestP906OneAfterTheOther(t *testing.T) {
	w := newWorld(t, 7, upTo(7), func(o *raft.Options) { o.Lo, o.Hi, o.Beat, o.Seed = 3, 3, 2, 9 })
	c := newCalm(w, 5, delays()[2])
	for range 4 {
		c.hold()
		c.leader().crash()
	}
	c.ticks(20 * 3)
	if c.leader() != nil {
		t.Error("P905: three of seven lead")
	}
	for _, m := range c.l {
		if !m.up {
			c.start(m)
		}
	}
	c.hold()
}
