package raft_test

import (
	"errors"
	"math"
	"testing"

	"teasel/api"
	"teasel/codec"
	"teasel/raft"
	"teasel/wal"
)

// messages are some of all kinds, with all fields.
func messages() []raft.Message {
	full := raft.Message{
		Kind: raft.MAppend, From: 8, To: 3, Term: 1 << 40, Index: 5, Log: 7, Commit: 300, Ok: true, Hint: 9, HintTerm: 1 << 20,
		Entries: []wal.Entry{{Term: 1, Data: []byte("a")}, {Term: 2}, {Term: 1 << 40, Data: make([]byte, 1<<18)}},
		Snap:    wal.Snap{Index: 77, Term: 6, Data: make([]byte, 1<<20)},
	}
	l := []raft.Message{full}
	for kind := raft.MVote; kind <= raft.MBegins; kind++ {
		l = append(l, raft.Message{Kind: kind}, raft.Message{Kind: kind, From: 1, To: 2, Term: 3, Ok: true})
		some := full
		some.Kind, some.Entries, some.Snap = kind, full.Entries[:1], wal.Snap{Data: []byte{0}}
		l = append(l, some)
	}
	odd := full
	odd.Term, odd.Index, odd.Log, odd.Commit, odd.Hint, odd.HintTerm = -1, math.MinInt, math.MaxInt, -1<<40, -2, 1<<62
	odd.Entries = []wal.Entry{{Term: -5}}
	return append(l, odd)
}

func TestP904ThereAndBack(t *testing.T) {
	for i, m := range messages() {
		y, err := raft.Read(raft.Text(m))
		if err != nil || !sameMessages(m, y) {
			t.Errorf("%d: %v, %v", i, y, err)
		}
	}
}

// TestP904TextsApart: two messages that are not the same have not the same bytes.
func TestP904TextsApart(t *testing.T) {
	seen := map[string]int{}
	for i, m := range messages() {
		b := string(raft.Text(m))
		if k, is := seen[b]; is {
			t.Errorf("%d is as %d", i, k)
		}
		seen[b] = i
	}
}

// wantFault holds bytes to be none.
func wantFault(t *testing.T, b []byte) {
	t.Helper()
	m, err := raft.Read(b)
	var f *codec.Fault
	var e api.Errno
	if err == nil || !errors.As(err, &f) || !errors.As(err, &e) || e == api.OK || !sameMessages(m, raft.Message{}) {
		t.Errorf("Read(%v): %v, %v; want a Fault", b, m, err)
	}
}

func TestP904None(t *testing.T) {
	for _, turn := range []func(m *raft.Message){
		func(m *raft.Message) { *m = raft.Message{} },
		func(m *raft.Message) { m.Kind = 0 },
		func(m *raft.Message) { m.Kind = 7 },
		func(m *raft.Message) { m.Kind = -1 },
		func(m *raft.Message) { m.From = 9 },
		func(m *raft.Message) { m.From = -1 },
		func(m *raft.Message) { m.To = 9 },
		func(m *raft.Message) { m.To = math.MinInt },
	} {
		m := messages()[2]
		turn(&m)
		wantFault(t, raft.Text(m))
	}
	m := raft.Message{Kind: raft.MAppend, From: 1, To: 2, Term: 300, Entries: []wal.Entry{{Term: 5, Data: []byte("abc")}, {Term: 5}}, Snap: wal.Snap{Index: 1, Term: 1, Data: []byte("xyz")}}
	b := raft.Text(m)
	for n := range b {
		wantFault(t, b[:n])
	}
	wantFault(t, append(b[:len(b):len(b)], 0))
	wantFault(t, append(b[:len(b):len(b)], b...))
	wantFault(t, nil)
}

// TestP904Any (P1): of any bytes Read ends; what it reads is laid as those bytes.
func TestP904Any(t *testing.T) {
	s := drawer(3)
	b := raft.Text(raft.Message{Kind: raft.MAppend, From: 1, To: 2, Entries: []wal.Entry{{Term: 5, Data: []byte("abc")}}})
	for range 20000 {
		c := append([]byte{}, b...)
		for range s.Between(1, 4) {
			c[s.Below(len(c))] = byte(s.Next())
		}
		if m, err := raft.Read(c); err != nil {
			wantFault(t, c)
		} else if string(raft.Text(m)) != string(c) {
			t.Fatalf("%v is read of %v", m, c)
		}
	}
	huge := codec.NewWriter()
	for range 12 {
		huge.Int(1)
	}
	wantFault(t, huge.Bytes(nil).Int(1<<62).Done())
	wantFault(t, huge.Int(1<<62).Done())
}
