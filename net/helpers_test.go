package net_test

import (
	"bytes"
	"math"
	"slices"
	"testing"

	"teasel/api"
	"teasel/net"
)

const (
	mostData    = 1 << 20
	mostWaiting = 1 << 12
)

func newNet(t *testing.T, nodes int) *net.Net {
	t.Helper()
	n, e := net.New(nodes)
	if e != api.OK || n == nil {
		t.Fatalf("New(%d): %v", nodes, e)
	}
	return n
}

func packet(from, to, number int, data string) net.Packet {
	return net.Packet{From: from, To: to, N: number, Data: []byte(data)}
}

func isSame(a, b net.Packet) bool {
	return a.From == b.From && a.To == b.To && a.N == b.N && bytes.Equal(a.Data, b.Data)
}

func wantSend(t *testing.T, n *net.Net, from, to int, data string, want api.Errno) {
	t.Helper()
	if e := n.Send(from, to, []byte(data)); e != want {
		t.Errorf("Send(%d, %d, %d bytes): %v; want %v", from, to, len(data), e, want)
	}
}

func wantWait(t *testing.T, n *net.Net, want ...net.Packet) {
	t.Helper()
	if l := n.Wait(); !slices.EqualFunc(l, want, isSame) {
		t.Errorf("Wait: %v; want %v", l, want)
	}
}

func wantTake(t *testing.T, n *net.Net, which int, want net.Packet) {
	t.Helper()
	if p, e := n.Take(which); e != api.OK || !isSame(p, want) {
		t.Errorf("Take(%d): %v, %v; want %v", which, p, e, want)
	}
}

func wantErrno(t *testing.T, call string, e, want api.Errno) {
	t.Helper()
	if e != want {
		t.Errorf("%s: %v; want %v", call, e, want)
	}
}

// wantOpen holds those pairs to be open that are not among the cut ones.
func wantOpen(t *testing.T, n *net.Net, nodes int, cut ...[2]int) {
	t.Helper()
	for a := -2; a < nodes+2; a++ {
		for b := -2; b < nodes+2; b++ {
			are := min(a, b) >= 0 && max(a, b) < nodes
			want := are && !slices.Contains(cut, [2]int{a, b}) && !slices.Contains(cut, [2]int{b, a})
			if open := n.Open(a, b); open != want {
				t.Errorf("Open(%d, %d): %t; want %t", a, b, open, want)
			}
		}
	}
}

// noNodes are none of a net of so many.
func noNodes(nodes int) []int {
	return []int{-1, nodes, nodes + 1, -2, 1 << 32, -1 << 32, math.MinInt, math.MaxInt}
}

// fiveWait are packets of a net of three nodes, of which one was lost and one waits twice.
func fiveWait(t *testing.T) (*net.Net, []net.Packet) {
	t.Helper()
	n := newNet(t, 3)
	wantSend(t, n, 0, 1, "a", api.OK)
	wantSend(t, n, 1, 0, "bb", api.OK)
	wantErrno(t, "Again(1)", n.Again(1), api.OK)
	wantErrno(t, "Cut(0, 2)", n.Cut(0, 2), api.OK)
	wantSend(t, n, 2, 0, "lost", api.OK)
	wantSend(t, n, 1, 2, "", api.OK)
	wantSend(t, n, 2, 2, "d", api.OK)
	l := []net.Packet{packet(0, 1, 0, "a"), packet(1, 0, 1, "bb"), packet(1, 0, 1, "bb"), packet(1, 2, 3, ""), packet(2, 2, 4, "d")}
	wantWait(t, n, l...)
	return n, l
}
