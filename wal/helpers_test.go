package wal_test

import (
	"bytes"
	"errors"
	"slices"
	"testing"

	"teasel/api"
	"teasel/disk"
	"teasel/wal"
)

// The logs of most tests lie in the sectors from at on, with others ahead and behind.
const (
	size = 64
	at   = 3
	n    = 16
)

// model is what a log must tell. Its changes leave it as it is.
type model struct {
	hard wal.Hard
	snap wal.Snap
	list []wal.Entry
}

func blank() model { return model{hard: wal.Hard{Vote: -1}} }

func (m model) past() int { return m.snap.Index + 1 + len(m.list) }

func (m model) put(from int, l ...wal.Entry) model {
	m.list = slices.Concat(m.list[:from-m.snap.Index-1], l)
	return m
}

func (m model) set(h wal.Hard) model {
	m.hard = h
	return m
}

func (m model) keep(s wal.Snap) model {
	var rest []wal.Entry
	if k := s.Index - m.snap.Index; k <= len(m.list) && m.list[k-1].Term == s.Term {
		rest = m.list[k:]
	}
	m.snap, m.list = s, rest
	return m
}

func sameEntry(a, b wal.Entry) bool { return a.Term == b.Term && bytes.Equal(a.Data, b.Data) }

func tells(w *wal.Wal, m model) bool {
	s := w.Snap()
	first, l := w.Entries()
	return w.Hard() == m.hard &&
		s.Index == m.snap.Index && s.Term == m.snap.Term && bytes.Equal(s.Data, m.snap.Data) &&
		first == m.snap.Index+1 && slices.EqualFunc(l, m.list, sameEntry)
}

func wantTells(t *testing.T, w *wal.Wal, m model) {
	t.Helper()
	if !tells(w, m) {
		first, l := w.Entries()
		t.Fatalf("%v, %v, %d, %v; want %v", w.Hard(), w.Snap(), first, l, m)
	}
}

// wantFailure holds an error against the Failure that is promised, and asks for it in each way.
func wantFailure(t *testing.T, err error, step string, e api.Errno) {
	t.Helper()
	var f *wal.Failure
	if !errors.As(err, &f) {
		t.Fatalf("%v is no Failure; want %s %v", err, step, e)
	}
	if f.Step != step || !errors.Is(err, e) || f.Unwrap() != error(e) || err.Error() != step+" "+e.Error() {
		t.Errorf("%v; want %s %v", err, step, e)
	}
}

func wantNone(t *testing.T, err error) {
	t.Helper()
	if err != nil {
		t.Fatal(err)
	}
}

func newDisk(t *testing.T, sectors, size int) *disk.Disk {
	t.Helper()
	d, e := disk.New(sectors, size)
	if e != api.OK {
		t.Fatalf("New(%d, %d): %v", sectors, size, e)
	}
	return d
}

func format(t *testing.T, d *disk.Disk, at, n int) *wal.Wal {
	t.Helper()
	w, err := wal.Format(d, at, n)
	wantNone(t, err)
	return w
}

func open(t *testing.T, d *disk.Disk, at, n int) *wal.Wal {
	t.Helper()
	w, err := wal.Open(d, at, n)
	wantNone(t, err)
	return w
}

// newLog is on a disk of its own, of the sectors that there are at least.
func newLog(t *testing.T) (*disk.Disk, *wal.Wal) {
	t.Helper()
	d := newDisk(t, at+n+4, size)
	return d, format(t, d, at, n)
}

// again is the log that a disk holds when the power went and came.
func again(t *testing.T, d *disk.Disk, at, n int) *wal.Wal {
	t.Helper()
	d.Cut()
	d.On()
	return open(t, d, at, n)
}

func entry(term int, data string) wal.Entry { return wal.Entry{Term: term, Data: []byte(data)} }

// drawn are bytes of which each one hangs on its place.
func drawn(n int) []byte {
	b, v := make([]byte, n), uint32(n)
	for i := range b {
		v = v*1664525 + 1013904223
		b[i] = byte(v >> 24)
	}
	return b
}
