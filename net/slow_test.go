package net_test

import (
	"bytes"
	"cmp"
	"slices"
	"testing"

	"teasel/api"
	"teasel/draws"
	"teasel/net"
)

// slowNet lays what waits in any order, and sorts it for each call; it asks of each two nodes whether they are joined, each way.
type slowNet struct {
	nodes int
	apart [api.MaxNodes][api.MaxNodes]int
	sent  int
	laid  []net.Packet
}

func (n *slowNet) wait() []net.Packet {
	l := slices.Clone(n.laid)
	slices.SortStableFunc(l, func(a, b net.Packet) int { return cmp.Compare(a.N, b.N) })
	return l
}

func (n *slowNet) has(node int) bool { return slices.Contains([]int{0, 1, 2, 3, 4}[:n.nodes], node) }

func (n *slowNet) send(from, to int, data []byte) api.Errno {
	if !n.has(from) || !n.has(to) {
		return api.ErrArg
	}
	if n.apart[from][to] == 0 {
		n.laid = slices.Insert(n.laid, 0, net.Packet{From: from, To: to, N: n.sent, Data: data})
	}
	n.sent++
	return api.OK
}

func (n *slowNet) take(which int) (net.Packet, api.Errno) {
	l := n.wait()
	if which < 0 || which >= len(l) {
		return net.Packet{}, api.ErrNone
	}
	taken := l[which]
	n.laid = slices.Delete(l, which, which+1)
	return taken, api.OK
}

func (n *slowNet) again(which int) api.Errno {
	l := n.wait()
	if which < 0 || which >= len(l) {
		return api.ErrNone
	}
	n.laid = append(n.laid, l[which])
	return api.OK
}

func (n *slowNet) cut(a, b int) api.Errno {
	if !n.has(a) || !n.has(b) || a == b {
		return api.ErrArg
	}
	n.apart[a][b], n.apart[b][a] = 1, 1
	n.laid = slices.DeleteFunc(n.laid, func(p net.Packet) bool { return n.apart[p.From][p.To] == 1 })
	return api.OK
}

func (n *slowNet) clear(node int) int {
	had := len(n.laid)
	n.laid = slices.DeleteFunc(n.laid, func(p net.Packet) bool { return p.To == node })
	return had - len(n.laid)
}

// pair is a net and a slow one that are called alike.
type pair struct {
	t    *testing.T
	s    *draws.Source
	n    *net.Net
	slow *slowNet
}

func newPair(t *testing.T, seed uint64) *pair {
	p := &pair{t: t, s: draws.New(seed)}
	nodes := p.s.Between(1, 5)
	p.n, p.slow = newNet(t, nodes), &slowNet{nodes: nodes}
	return p
}

func (p *pair) node() int { return p.s.Between(-1, p.slow.nodes) }

func (p *pair) place() int { return p.s.Between(-1, len(p.slow.laid)) }

func (p *pair) step() {
	switch p.s.Below(16) {
	case 0:
		a, b := p.node(), p.node()
		p.want("Cut", p.n.Cut(a, b), p.slow.cut(a, b))
	case 1:
		p.n.Heal()
		p.slow.apart = [api.MaxNodes][api.MaxNodes]int{}
	case 2:
		node := p.node()
		if had, want := p.n.Clear(node), p.slow.clear(node); had != want {
			p.t.Fatalf("Clear(%d): %d; want %d", node, had, want)
		}
	case 3:
		which := p.place()
		_, want := p.slow.take(which)
		p.want("Drop", p.n.Drop(which), want)
	case 4, 5:
		p.take()
	case 6, 7, 8:
		which := p.place()
		p.want("Again", p.n.Again(which), p.slow.again(which))
	default:
		from, to := p.node(), p.node()
		data := bytes.Repeat([]byte{byte(p.s.Next())}, p.s.Below(4))
		p.want("Send", p.n.Send(from, to, data), p.slow.send(from, to, data))
	}
}

func (p *pair) take() {
	which := p.place()
	got, e := p.n.Take(which)
	want, wantE := p.slow.take(which)
	p.want("Take", e, wantE)
	if !isSame(got, want) {
		p.t.Fatalf("Take(%d): %v; want %v", which, got, want)
	}
}

func (p *pair) want(call string, e, want api.Errno) {
	p.t.Helper()
	if e != want {
		p.t.Fatalf("%s: %v; want %v", call, e, want)
	}
}

func (p *pair) wantAlike() {
	wantWait(p.t, p.n, p.slow.wait()...)
	for a := -1; a <= p.slow.nodes; a++ {
		for b := -1; b <= p.slow.nodes; b++ {
			want := p.slow.has(a) && p.slow.has(b) && p.slow.apart[a][b] == 0
			if open := p.n.Open(a, b); open != want {
				p.t.Errorf("Open(%d, %d): %t; want %t", a, b, open, want)
			}
		}
	}
}

func TestP502AgainstSlowNet(t *testing.T) {
	for seed := range uint64(200) {
		p := newPair(t, seed)
		for range 200 {
			p.step()
			p.wantAlike()
			if t.Failed() {
				t.Fatalf("seed %d", seed)
			}
		}
	}
}
