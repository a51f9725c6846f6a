package net_test

import (
	"bytes"
	"testing"

	"teasel/api"
	"teasel/net"
)

// spoil writes over a list's bytes, and over its spare room.
func spoil(b []byte) {
	b = b[:cap(b)]
	for i := range b {
		b[i] = 0xEE
	}
}

// spoilAll writes over packets, their spare room, and their bytes.
func spoilAll(l []net.Packet) {
	for _, p := range l {
		spoil(p.Data)
	}
	l = l[:cap(l)]
	for i := range l {
		l[i] = net.Packet{From: 9, To: 9, N: -9, Data: []byte("spoilt")}
	}
}

func TestP2DataIsNotKept(t *testing.T) {
	n := newNet(t, 3)
	b := append(make([]byte, 0, 64), "abc"...)
	for range 2 {
		wantErrno(t, "Send", n.Send(0, 1, b), api.OK)
	}
	spoil(b)
	wantErrno(t, "Again", n.Again(0), api.OK)
	wantWait(t, n, packet(0, 1, 0, "abc"), packet(0, 1, 0, "abc"), packet(0, 1, 1, "abc"))
}

func TestP2DataIsNotChanged(t *testing.T) {
	n := newNet(t, 3)
	whole := []byte("abcdefgh")
	b := whole[2:4]
	wantErrno(t, "Send", n.Send(0, 1, b), api.OK)
	wantErrno(t, "Send", n.Send(0, 1, b[:0]), api.OK)
	wantErrno(t, "Again", n.Again(0), api.OK)
	spoilAll(n.Wait())
	for range 3 {
		p, _ := n.Take(0)
		spoil(p.Data)
	}
	if !bytes.Equal(whole, []byte("abcdefgh")) {
		t.Errorf("%q", whole)
	}
}

func TestP2WaitIsNew(t *testing.T) {
	n, l := fiveWait(t)
	first, second := n.Wait(), n.Wait()
	spoilAll(first)
	for i, p := range second {
		if !isSame(p, l[i]) {
			t.Errorf("packet %d: %v; want %v", i, p, l[i])
		}
	}
	spoilAll(second)
	wantWait(t, n, l...)
}

// TestP2ListsApart: of those that wait more than once each has bytes of its own.
func TestP2ListsApart(t *testing.T) {
	n := newNet(t, 2)
	wantSend(t, n, 0, 1, "same", api.OK)
	for range 3 {
		wantErrno(t, "Again", n.Again(0), api.OK)
	}
	wantSend(t, n, 0, 1, "other", api.OK)
	l := n.Wait()
	for i := range l {
		spoil(l[i].Data)
		for j := i + 1; j < len(l)-1; j++ {
			if string(l[j].Data) != "same" {
				t.Fatalf("packet %d changes with packet %d: %q", j, i, l[j].Data)
			}
		}
	}
	same := packet(0, 1, 0, "same")
	wantWait(t, n, same, same, same, same, packet(0, 1, 1, "other"))
}

func TestP2TakeIsNew(t *testing.T) {
	n := newNet(t, 2)
	wantSend(t, n, 0, 1, "same", api.OK)
	wantErrno(t, "Again", n.Again(0), api.OK)
	wantErrno(t, "Again", n.Again(0), api.OK)
	waits := n.Wait()
	first, _ := n.Take(0)
	spoil(first.Data)
	second, _ := n.Take(0)
	if string(second.Data) != "same" || string(waits[0].Data) != "same" {
		t.Errorf("%q, %q", second.Data, waits[0].Data)
	}
	spoil(second.Data)
	wantWait(t, n, packet(0, 1, 0, "same"))
}
