package net_test

import (
	"math"
	"slices"
	"strings"
	"testing"

	"teasel/api"
	"teasel/net"
)

func TestP501New(t *testing.T) {
	for nodes := 1; nodes <= api.MaxNodes; nodes++ {
		n := newNet(t, nodes)
		wantWait(t, n)
		wantOpen(t, n, nodes)
		sent := 0
		for from := range nodes {
			for to := range nodes {
				wantSend(t, n, from, to, "x", api.OK)
				wantTake(t, n, 0, packet(from, to, sent, "x"))
				sent++
			}
		}
	}
}

func TestP501NewRefused(t *testing.T) {
	for _, nodes := range []int{0, -1, api.MaxNodes + 1, api.MaxNodes + 2, 1<<32 + 1, math.MinInt, math.MaxInt} {
		if n, e := net.New(nodes); n != nil || e != api.ErrArg {
			t.Errorf("New(%d): %v, %v; want arg", nodes, n, e)
		}
	}
}

// TestP501NetsApart (P7): what one net is sent, and what it cuts, is nothing to another one.
func TestP501NetsApart(t *testing.T) {
	a, b := newNet(t, 3), newNet(t, 3)
	wantSend(t, a, 0, 1, "a", api.OK)
	wantErrno(t, "Cut", a.Cut(0, 2), api.OK)
	wantWait(t, b)
	wantOpen(t, b, 3)
	wantSend(t, b, 0, 2, "b", api.OK)
	wantWait(t, b, packet(0, 2, 0, "b"))
	wantWait(t, a, packet(0, 1, 0, "a"))
	b.Heal()
	wantOpen(t, a, 3, [2]int{0, 2})
}

func TestP501SendRefused(t *testing.T) {
	for _, nodes := range []int{1, 3, api.MaxNodes} {
		n := newNet(t, nodes)
		wantSend(t, n, 0, 0, "a", api.OK)
		for _, none := range noNodes(nodes) {
			for _, c := range [][2]int{{none, 0}, {0, none}, {none, nodes - 1}, {nodes - 1, none}, {none, none}} {
				wantSend(t, n, c[0], c[1], "b", api.ErrArg)
				wantSend(t, n, c[0], c[1], "", api.ErrArg)
			}
		}
		wantWait(t, n, packet(0, 0, 0, "a"))
		wantSend(t, n, 0, 0, "c", api.OK) // P5: those were not sent
		wantWait(t, n, packet(0, 0, 0, "a"), packet(0, 0, 1, "c"))
	}
}

func TestP501SendLong(t *testing.T) {
	n := newNet(t, 3)
	most := strings.Repeat("m", mostData)
	wantSend(t, n, 0, 1, most[1:], api.OK)
	wantSend(t, n, 0, 1, most, api.OK)
	wantSend(t, n, 0, 1, most+"m", api.ErrLong)
	wantSend(t, n, 1, 1, most+most, api.ErrLong)
	wantErrno(t, "Cut", n.Cut(0, 2), api.OK)
	wantSend(t, n, 0, 2, most+"m", api.ErrLong) // not lost, though they are cut
	wantSend(t, n, 0, 2, most, api.OK)
	wantSend(t, n, 1, 2, "", api.OK)
	l := n.Wait()
	if len(l) != 3 || !isSame(l[0], packet(0, 1, 0, most[1:])) || !isSame(l[1], packet(0, 1, 1, most)) || !isSame(l[2], packet(1, 2, 3, "")) {
		t.Errorf("%d wait", len(l))
	}
}

// TestP501SendArgAheadOfLong (P6).
func TestP501SendArgAheadOfLong(t *testing.T) {
	n := newNet(t, 2)
	for _, none := range noNodes(2) {
		wantSend(t, n, none, 0, strings.Repeat("l", mostData+1), api.ErrArg)
		wantSend(t, n, 1, none, strings.Repeat("l", mostData+1), api.ErrArg)
	}
	wantWait(t, n)
}

func TestP501SendNoData(t *testing.T) {
	n := newNet(t, 2)
	wantErrno(t, "Send", n.Send(0, 1, nil), api.OK)
	wantErrno(t, "Send", n.Send(0, 1, []byte{}), api.OK)
	wantWait(t, n, packet(0, 1, 0, ""), packet(0, 1, 1, ""))
	wantTake(t, n, 0, packet(0, 1, 0, ""))
	wantTake(t, n, 0, packet(0, 1, 1, ""))
}

// TestP501NumbersCountTheLost: in whichever way they were lost; what waits once more was not sent.
func TestP501NumbersCountTheLost(t *testing.T) {
	n := newNet(t, 3)
	wantErrno(t, "Cut", n.Cut(0, 1), api.OK)
	wantSend(t, n, 0, 1, "lost", api.OK)
	wantSend(t, n, 1, 0, "lost", api.OK)
	wantSend(t, n, 0, 2, "dropped", api.OK)
	wantErrno(t, "Drop", n.Drop(0), api.OK)
	wantSend(t, n, 0, 2, "cut", api.OK)
	wantErrno(t, "Cut", n.Cut(2, 0), api.OK)
	wantSend(t, n, 1, 2, "cleared", api.OK)
	if had := n.Clear(2); had != 1 {
		t.Errorf("Clear(2): %d; want 1", had)
	}
	wantSend(t, n, 1, 2, "taken", api.OK)
	wantTake(t, n, 0, packet(1, 2, 5, "taken"))
	wantSend(t, n, 1, 2, "last but one", api.OK)
	wantErrno(t, "Again", n.Again(0), api.OK)
	wantErrno(t, "Again", n.Again(1), api.OK)
	n.Heal()
	wantSend(t, n, 0, 1, "last", api.OK)
	six := packet(1, 2, 6, "last but one")
	wantWait(t, n, six, six, six, packet(0, 1, 7, "last"))
}

// TestP501SendsNotBounded: the bound is that of Again alone.
func TestP501SendsNotBounded(t *testing.T) {
	n := newNet(t, 2)
	for i := range 3 * mostWaiting {
		wantSend(t, n, 0, 1, string(rune('a'+i%26)), api.OK)
	}
	l := n.Wait()
	if len(l) != 3*mostWaiting {
		t.Fatalf("%d wait", len(l))
	}
	for i, p := range l {
		if want := packet(0, 1, i, string(rune('a'+i%26))); !isSame(p, want) {
			t.Fatalf("packet %d: %v; want %v", i, p, want)
		}
	}
}

func TestP501WaitTellsAlike(t *testing.T) {
	n, l := fiveWait(t)
	for range 3 {
		wantWait(t, n, l...)
	}
}

func TestP501Take(t *testing.T) {
	for which := range 5 {
		n, l := fiveWait(t)
		wantTake(t, n, which, l[which])
		l = slices.Delete(l, which, which+1)
		wantWait(t, n, l...)
		wantSend(t, n, 0, 0, "next", api.OK)
		wantWait(t, n, append(l, packet(0, 0, 5, "next"))...)
	}
}

func TestP501TakeInAnyOrder(t *testing.T) {
	for _, order := range [][]int{{0, 0, 0, 0, 0}, {4, 3, 2, 1, 0}, {2, 2, 2, 1, 0}, {1, 3, 0, 1, 0}, {3, 1, 2, 0, 0}} {
		n, l := fiveWait(t)
		for _, which := range order {
			wantTake(t, n, which, l[which])
			l = slices.Delete(l, which, which+1)
			wantWait(t, n, l...)
		}
		if p, e := n.Take(0); e != api.ErrNone || !isSame(p, net.Packet{}) {
			t.Errorf("Take(0): %v, %v; want none", p, e)
		}
	}
}

func TestP501Drop(t *testing.T) {
	for which := range 5 {
		n, l := fiveWait(t)
		wantErrno(t, "Drop", n.Drop(which), api.OK)
		wantWait(t, n, slices.Delete(l, which, which+1)...)
	}
}

// TestP501None (P4, P5): of no place that is not there, as of a net on which none waits.
func TestP501None(t *testing.T) {
	five, l := fiveWait(t)
	for _, c := range []struct {
		n    *net.Net
		wait []net.Packet
	}{{five, l}, {newNet(t, 2), nil}} {
		for _, which := range noNodes(len(c.wait)) {
			if p, e := c.n.Take(which); e != api.ErrNone || p.Data != nil || !isSame(p, net.Packet{}) {
				t.Errorf("Take(%d): %v, %v; want none", which, p, e)
			}
			wantErrno(t, "Drop", c.n.Drop(which), api.ErrNone)
			wantErrno(t, "Again", c.n.Again(which), api.ErrNone)
		}
		wantWait(t, c.n, c.wait...)
	}
}

func TestP501Again(t *testing.T) {
	for which := range 5 {
		n, l := fiveWait(t)
		wantErrno(t, "Again", n.Again(which), api.OK)
		l = slices.Insert(l, which+1, l[which])
		wantWait(t, n, l...)
		wantErrno(t, "Again", n.Again(which+1), api.OK)
		l = slices.Insert(l, which+1, l[which])
		wantWait(t, n, l...)
		wantTake(t, n, which, l[which])
		wantErrno(t, "Drop", n.Drop(which), api.OK)
		wantWait(t, n, slices.Delete(l, which, which+2)...)
	}
}

// TestP501AgainOutlasts: what waits once more does so though the one that was sent does not.
func TestP501AgainOutlasts(t *testing.T) {
	n := newNet(t, 2)
	wantSend(t, n, 1, 0, "a", api.OK)
	for range 5 {
		wantErrno(t, "Again", n.Again(0), api.OK)
		wantTake(t, n, 0, packet(1, 0, 0, "a"))
		wantWait(t, n, packet(1, 0, 0, "a"))
	}
	wantErrno(t, "Drop", n.Drop(0), api.OK)
	wantErrno(t, "Again", n.Again(0), api.ErrNone)
	wantWait(t, n)
}

func TestP501AgainFull(t *testing.T) {
	n := newNet(t, 2)
	wantSend(t, n, 0, 1, "a", api.OK)
	wantSend(t, n, 0, 1, "b", api.OK)
	for range mostWaiting - 2 {
		wantErrno(t, "Again", n.Again(0), api.OK)
	}
	for _, which := range []int{0, 1, mostWaiting - 1} {
		wantErrno(t, "Again", n.Again(which), api.ErrFull)
	}
	for _, which := range []int{-1, mostWaiting, mostWaiting + 1, math.MaxInt} { // P6
		wantErrno(t, "Again", n.Again(which), api.ErrNone)
	}
	l := append(slices.Repeat([]net.Packet{packet(0, 1, 0, "a")}, mostWaiting-1), packet(0, 1, 1, "b"))
	wantWait(t, n, l...)
	wantTake(t, n, 5, packet(0, 1, 0, "a"))
	wantErrno(t, "Again", n.Again(mostWaiting-2), api.OK)
	l[mostWaiting-2] = packet(0, 1, 1, "b")
	wantWait(t, n, l...)
	wantErrno(t, "Again", n.Again(0), api.ErrFull)
}

// TestP501AgainFullBeyond: where Send let more wait than Again would.
func TestP501AgainFullBeyond(t *testing.T) {
	n := newNet(t, 2)
	for range mostWaiting + 2 {
		wantSend(t, n, 0, 1, "a", api.OK)
	}
	for range 3 {
		wantErrno(t, "Again", n.Again(0), api.ErrFull)
		wantErrno(t, "Drop", n.Drop(0), api.OK)
	}
	wantErrno(t, "Again", n.Again(0), api.OK)
	wantErrno(t, "Again", n.Again(0), api.ErrFull)
}

// TestP501ManyFromTheFront: so many, each moved for each that is taken, would take far longer than a test may.
func TestP501ManyFromTheFront(t *testing.T) {
	const many = 1 << 18
	n := newNet(t, 2)
	for range many {
		n.Send(0, 1, nil)
	}
	for i := range many {
		if p, e := n.Take(0); e != api.OK || p.N != i {
			t.Fatalf("Take(0): %v, %v; want number %d", p, e, i)
		}
	}
	wantWait(t, n)
}

// TestP1Declared: calls on a net that New did not make end, too.
func TestP1Declared(t *testing.T) {
	var n net.Net
	wantSend(t, &n, 0, 0, "a", api.ErrArg)
	n.Take(0)
	n.Drop(0)
	n.Again(0)
	wantErrno(t, "Cut", n.Cut(0, 1), api.ErrArg)
	n.Heal()
	n.Clear(0)
	wantOpen(t, &n, 0)
	wantWait(t, &n)
}
