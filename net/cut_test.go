package net_test

import (
	"math"
	"testing"

	"teasel/api"
	"teasel/net"
)

// sendAll sends from each node to each node; data tells from where to where.
func sendAll(t *testing.T, n *net.Net, nodes int) {
	t.Helper()
	for from := range nodes {
		for to := range nodes {
			wantSend(t, n, from, to, route(from, to), api.OK)
		}
	}
}

func route(from, to int) string { return string([]byte{'0' + byte(from), '0' + byte(to)}) }

// allBut are what sendAll sends, from number on, without those that are lost.
func allBut(nodes, number int, lost func(from, to int) bool) (l []net.Packet) {
	for from := range nodes {
		for to := range nodes {
			if !lost(from, to) {
				l = append(l, packet(from, to, number, route(from, to)))
			}
			number++
		}
	}
	return l
}

func TestP502CutEachPair(t *testing.T) {
	const nodes = 4
	for a := range nodes {
		for b := range nodes {
			if a == b {
				continue
			}
			between := func(from, to int) bool { return from == a && to == b || from == b && to == a }
			n := newNet(t, nodes)
			sendAll(t, n, nodes)
			wantErrno(t, "Cut", n.Cut(a, b), api.OK)
			wantOpen(t, n, nodes, [2]int{a, b})
			l := allBut(nodes, 0, between)
			wantWait(t, n, l...)
			sendAll(t, n, nodes)
			l = append(l, allBut(nodes, nodes*nodes, between)...)
			wantWait(t, n, l...)
			n.Heal()
			wantOpen(t, n, nodes)
			wantWait(t, n, l...)
			wantSend(t, n, a, b, "healed", api.OK)
			wantSend(t, n, b, a, "healed", api.OK)
			wantWait(t, n, append(l, packet(a, b, 2*nodes*nodes, "healed"), packet(b, a, 2*nodes*nodes+1, "healed"))...)
		}
	}
}

func TestP502CutRefused(t *testing.T) {
	for _, nodes := range []int{1, 2, api.MaxNodes} {
		n := newNet(t, nodes)
		sendAll(t, n, nodes)
		for _, none := range noNodes(nodes) {
			wantErrno(t, "Cut", n.Cut(none, 0), api.ErrArg)
			wantErrno(t, "Cut", n.Cut(nodes-1, none), api.ErrArg)
			wantErrno(t, "Cut", n.Cut(none, none), api.ErrArg)
			wantErrno(t, "Cut", n.Cut(none, none^1), api.ErrArg)
		}
		for node := range nodes {
			wantErrno(t, "Cut", n.Cut(node, node), api.ErrArg)
		}
		wantOpen(t, n, nodes)
		wantWait(t, n, allBut(nodes, 0, func(from, to int) bool { return false })...)
	}
}

func TestP502CutTwice(t *testing.T) {
	n := newNet(t, 3)
	for _, c := range [][2]int{{0, 1}, {0, 1}, {1, 0}} {
		wantErrno(t, "Cut", n.Cut(c[0], c[1]), api.OK)
		wantOpen(t, n, 3, [2]int{0, 1})
	}
	n.Heal() // once is enough
	wantOpen(t, n, 3)
}

// TestP502CutAll: cuts add up, as far as nodes that are joined to themselves alone.
func TestP502CutAll(t *testing.T) {
	const nodes = api.MaxNodes
	n := newNet(t, nodes)
	sendAll(t, n, nodes)
	var cut [][2]int
	for a := range nodes {
		for b := range a {
			wantErrno(t, "Cut", n.Cut(a, b), api.OK)
			cut = append(cut, [2]int{a, b})
		}
		wantOpen(t, n, nodes, cut...)
	}
	apart := func(from, to int) bool { return from != to }
	l := allBut(nodes, 0, apart)
	wantWait(t, n, l...)
	sendAll(t, n, nodes)
	l = append(l, allBut(nodes, nodes*nodes, apart)...)
	wantWait(t, n, l...)
	n.Heal()
	wantOpen(t, n, nodes)
	wantWait(t, n, l...)
}

// TestP502CutIsOfThePair: others that reach both are joined still, though one could go by them.
func TestP502CutIsOfThePair(t *testing.T) {
	n := newNet(t, 3)
	wantErrno(t, "Cut", n.Cut(0, 2), api.OK)
	wantSend(t, n, 0, 1, "a", api.OK)
	wantSend(t, n, 1, 2, "b", api.OK)
	wantSend(t, n, 0, 2, "lost", api.OK)
	wantWait(t, n, packet(0, 1, 0, "a"), packet(1, 2, 1, "b"))
}

// TestP502CutLosesAgains: all that wait between both, however often.
func TestP502CutLosesAgains(t *testing.T) {
	n, l := fiveWait(t)
	wantErrno(t, "Cut", n.Cut(0, 1), api.OK)
	wantWait(t, n, l[3:]...)
	wantErrno(t, "Cut", n.Cut(2, 1), api.OK)
	wantWait(t, n, l[4:]...)
	n.Heal()
	wantWait(t, n, l[4:]...)
	wantSend(t, n, 1, 0, "e", api.OK)
	wantWait(t, n, l[4], packet(1, 0, 5, "e"))
}

func TestP502HealOfNone(t *testing.T) {
	n := newNet(t, 2)
	wantSend(t, n, 0, 1, "a", api.OK)
	n.Heal()
	wantOpen(t, n, 2)
	wantWait(t, n, packet(0, 1, 0, "a"))
}

func TestP502OpenOfNone(t *testing.T) {
	for nodes := 1; nodes <= api.MaxNodes; nodes++ {
		n := newNet(t, nodes)
		for _, none := range noNodes(nodes) {
			if n.Open(none, none) || n.Open(none, 0) || n.Open(nodes-1, none) {
				t.Errorf("of %d nodes, %d is none, but open", nodes, none)
			}
		}
	}
}

func TestP502Clear(t *testing.T) {
	const nodes = 4
	for node := range nodes {
		n := newNet(t, nodes)
		sendAll(t, n, nodes)
		if had := n.Clear(node); had != nodes {
			t.Errorf("Clear(%d): %d; want %d", node, had, nodes)
		}
		l := allBut(nodes, 0, func(from, to int) bool { return to == node })
		wantWait(t, n, l...)
		if had := n.Clear(node); had != 0 {
			t.Errorf("Clear(%d): %d; want 0", node, had)
		}
		wantOpen(t, n, nodes) // what is cleared is not cut
		wantSend(t, n, 0, node, "new", api.OK)
		wantWait(t, n, append(l, packet(0, node, nodes*nodes, "new"))...)
	}
}

func TestP502ClearCountsAgains(t *testing.T) {
	n, l := fiveWait(t)
	if had := n.Clear(0); had != 2 {
		t.Errorf("Clear(0): %d; want 2", had)
	}
	wantWait(t, n, l[0], l[3], l[4])
	if had := n.Clear(2); had != 2 {
		t.Errorf("Clear(2): %d; want 2", had)
	}
	wantWait(t, n, l[0])
	wantOpen(t, n, 3, [2]int{0, 2})
}

func TestP502ClearOfNone(t *testing.T) {
	n, l := fiveWait(t)
	for _, none := range []int{-1, 3, 4, 1 << 32, math.MinInt, math.MaxInt} {
		if had := n.Clear(none); had != 0 {
			t.Errorf("Clear(%d): %d; want 0", none, had)
		}
	}
	wantWait(t, n, l...)
}
