package wal_test

import (
	"math"
	"testing"

	"teasel/api"
	"teasel/wal"
)

const (
	mostNumber = 1 << 40
	mostData   = 1 << 18
)

// wantAfter holds a log against what it must tell behind a call.
func wantAfter(t *testing.T, w *wal.Wal, m model, err error) model {
	t.Helper()
	wantNone(t, err)
	wantTells(t, w, m)
	return m
}

func TestP602Append(t *testing.T) {
	d, w := newLog(t)
	m := blank()
	do := func(from int, l ...wal.Entry) {
		t.Helper()
		m = wantAfter(t, w, m.put(from, l...), w.Append(from, l...))
	}
	do(1)
	do(1, entry(1, "a"))
	do(2, entry(9, "b"), entry(3, ""), entry(mostNumber, "dddd"))
	do(5)
	do(3, entry(4, "C")) // in the midst: what stood behind is no more
	do(4, entry(4, "D"), entry(4, "E"))
	do(2)
	do(2, wal.Entry{Term: 5}, wal.Entry{Term: 5, Data: []byte{}})
	do(1, entry(6, "all"), entry(6, "anew"))
	do(1)
	wantNone(t, w.Sync())
	wantTells(t, again(t, d, at, n), m)
}

func TestP602AppendBehindSnap(t *testing.T) {
	d, w := newLog(t)
	m := blank().keep(wal.Snap{Index: 7, Term: 2})
	wantNone(t, w.Keep(m.snap))
	for _, from := range []int{1, 7, 9, 10, 0, -1} {
		wantFailure(t, w.Append(from, entry(1, "x")), "append", api.ErrArg)
	}
	m = wantAfter(t, w, m.put(8, entry(3, "h"), entry(3, "i")), w.Append(8, entry(3, "h"), entry(3, "i")))
	m = wantAfter(t, w, m.put(9, entry(4, "I")), w.Append(9, entry(4, "I")))
	m = wantAfter(t, w, m.put(8, entry(5, "H")), w.Append(8, entry(5, "H")))
	wantNone(t, w.Sync())
	wantTells(t, again(t, d, at, n), m)
}

func TestP602AppendRefused(t *testing.T) {
	_, w := newLog(t)
	wantNone(t, w.Append(1, entry(1, "a"), entry(2, "b")))
	m := blank().put(1, entry(1, "a"), entry(2, "b"))
	good, long := entry(1, "x"), wal.Entry{Term: 1, Data: make([]byte, mostData+1)}
	for _, from := range []int{0, -1, 4, 5, math.MinInt, math.MaxInt, mostNumber} {
		wantFailure(t, w.Append(from), "append", api.ErrArg)
		wantFailure(t, w.Append(from, good), "append", api.ErrArg)
	}
	for _, term := range []int{0, -1, mostNumber + 1, math.MinInt, math.MaxInt} {
		bad := wal.Entry{Term: term}
		for _, l := range [][]wal.Entry{{bad}, {good, bad}, {bad, good}, {good, good, bad}} {
			wantFailure(t, w.Append(3, l...), "append", api.ErrArg)
			wantFailure(t, w.Append(1, l...), "append", api.ErrArg)
		}
	}
	for _, l := range [][]wal.Entry{{long}, {good, long}, {long, good}} {
		wantFailure(t, w.Append(3, l...), "append", api.ErrArg)
	}
	wantTells(t, w, m)
}

func TestP602LongestData(t *testing.T) {
	d := newDisk(t, 1100, 1024)
	w := format(t, d, 0, 1100)
	if w.Room() != mostData {
		t.Fatalf("Room: %d; want %d", w.Room(), mostData)
	}
	e := wal.Entry{Term: 1, Data: drawn(mostData)}
	wantNone(t, w.Append(1, e))
	wantFailure(t, w.Append(2, wal.Entry{Term: 1, Data: make([]byte, mostData+1)}), "append", api.ErrArg)
	wantNone(t, w.Sync())
	wantTells(t, again(t, d, 0, 1100), blank().put(1, e))
}

// TestP602LongRecords: one change may have more bytes than any frame.
func TestP602LongRecords(t *testing.T) {
	d := newDisk(t, 1<<13, 1024)
	w := format(t, d, 0, 1<<13)
	var l []wal.Entry
	for i := range 9 {
		l = append(l, wal.Entry{Term: 1 + i, Data: drawn(mostData - i)})
	}
	s := wal.Snap{Index: 1, Term: 1, Data: drawn(1<<20 + 5)}
	wantNone(t, w.Append(1, l...))
	wantTells(t, open(t, d, 0, 1<<13), blank().put(1, l...))
	wantNone(t, w.Append(2))
	wantNone(t, w.Keep(s))
	wantNone(t, w.Sync())
	wantTells(t, again(t, d, 0, 1<<13), blank().keep(s))
}

func TestP602Set(t *testing.T) {
	d, w := newLog(t)
	m := blank()
	for _, h := range []wal.Hard{
		{}, {Vote: -1}, {Term: mostNumber, Vote: api.MaxNodes - 1, Commit: mostNumber}, {Term: 1, Commit: 9}, {Term: 1, Vote: 3}, {Vote: -1},
	} {
		m = wantAfter(t, w, m.set(h), w.Set(h))
		wantTells(t, open(t, d, at, n), m)
	}
	for _, h := range []wal.Hard{
		{Term: -1}, {Term: mostNumber + 1}, {Term: math.MinInt}, {Term: math.MaxInt}, {Vote: -2}, {Vote: api.MaxNodes},
		{Vote: math.MinInt}, {Vote: math.MaxInt}, {Commit: -1}, {Commit: mostNumber + 1}, {Commit: math.MinInt}, {Commit: math.MaxInt},
	} {
		wantFailure(t, w.Set(h), "set", api.ErrArg)
		wantTells(t, w, m)
	}
}

func TestP602Keep(t *testing.T) {
	five := []wal.Entry{entry(1, "a"), entry(1, "b"), entry(2, "c"), entry(3, "d"), entry(3, "e")}
	for _, s := range []wal.Snap{
		{Index: 1, Term: 1}, {Index: 2, Term: 1, Data: []byte("two")}, {Index: 3, Term: 2, Data: drawn(99)}, {Index: 5, Term: 3}, // there, with that Term
		{Index: 1, Term: 2}, {Index: 3, Term: 1}, {Index: 3, Term: 3}, {Index: 5, Term: 1, Data: []byte("x")}, {Index: 5, Term: mostNumber}, // with another one
		{Index: 6, Term: 3}, {Index: 7, Term: 1, Data: drawn(7)}, {Index: mostNumber, Term: mostNumber, Data: []byte("far")}, // beyond the last
	} {
		d, w := newLog(t)
		wantNone(t, w.Append(1, five...))
		m := wantAfter(t, w, blank().put(1, five...).keep(s), w.Keep(s))
		wantNone(t, w.Sync())
		w = again(t, d, at, n)
		wantTells(t, w, m)
		for _, index := range []int{s.Index, s.Index - 1, 0, -1, math.MinInt, mostNumber + 1, math.MaxInt} {
			wantFailure(t, w.Keep(wal.Snap{Index: index, Term: 3}), "keep", api.ErrArg)
		}
		wantTells(t, w, m)
		m = wantAfter(t, w, m.put(m.past(), entry(5, "next")), w.Append(m.past(), entry(5, "next")))
		wantNone(t, w.Sync())
		wantTells(t, again(t, d, at, n), m)
	}
}

// TestP602KeepTwice: of a second snapshot, too, the entries behind it stay, if the one at its Index was there.
func TestP602KeepTwice(t *testing.T) {
	d, w := newLog(t)
	m := blank()
	for i := range 8 {
		m = wantAfter(t, w, m.put(i+1, entry(1+i, "x")), w.Append(i+1, entry(1+i, "x")))
	}
	for _, s := range []wal.Snap{{Index: 2, Term: 2, Data: []byte("s")}, {Index: 3, Term: 3}, {Index: 6, Term: 6, Data: []byte("t")}, {Index: 7, Term: 9}, {Index: 8, Term: 8}} {
		m = wantAfter(t, w, m.keep(s), w.Keep(s))
		wantTells(t, open(t, d, at, n), m)
	}
}

func TestP602KeepRefused(t *testing.T) {
	_, w := newLog(t)
	wantNone(t, w.Append(1, entry(1, "a")))
	for _, s := range []wal.Snap{
		{}, {Term: 1}, {Index: -1, Term: 1}, {Index: mostNumber + 1, Term: 1}, {Index: math.MinInt, Term: 1}, {Index: math.MaxInt, Term: 1},
		{Index: 1}, {Index: 1, Term: -1}, {Index: 1, Term: mostNumber + 1}, {Index: 1, Term: math.MinInt}, {Index: 1, Term: math.MaxInt},
	} {
		wantFailure(t, w.Keep(s), "keep", api.ErrArg)
		s.Data = make([]byte, 1<<20) // P6: ErrArg stands ahead of ErrFull
		wantFailure(t, w.Keep(s), "keep", api.ErrArg)
	}
	wantTells(t, w, blank().put(1, entry(1, "a")))
}

// TestP6Order: ErrArg, ErrFull, ErrDown.
func TestP6Order(t *testing.T) {
	d, w := newLog(t)
	wantNone(t, w.Append(1, entry(1, "a")))
	full := wal.Entry{Term: 1, Data: make([]byte, 5000)}
	for _, down := range []bool{false, true} {
		e := api.ErrFull
		if down {
			d.Cut()
		}
		wantFailure(t, w.Append(3, full), "append", api.ErrArg)
		wantFailure(t, w.Append(2, full, wal.Entry{}), "append", api.ErrArg)
		wantFailure(t, w.Append(2, full), "append", e)
		wantFailure(t, w.Keep(wal.Snap{Term: 1, Data: full.Data}), "keep", api.ErrArg)
		wantFailure(t, w.Keep(wal.Snap{Index: 1, Term: 1, Data: full.Data}), "keep", e)
		wantFailure(t, w.Set(wal.Hard{Vote: 9}), "set", api.ErrArg)
	}
	wantTells(t, w, blank().put(1, entry(1, "a")))
}

// TestP602Down: nothing is done without power, and nothing is forgotten, when it comes back, too.
func TestP602Down(t *testing.T) {
	d, w := newLog(t)
	m := blank().put(1, entry(1, "a")).set(wal.Hard{Term: 1}).keep(wal.Snap{Index: 1, Term: 1}).put(2, entry(2, "b"))
	wantNone(t, w.Append(1, entry(1, "a")))
	wantNone(t, w.Set(wal.Hard{Term: 1}))
	wantNone(t, w.Keep(wal.Snap{Index: 1, Term: 1}))
	wantNone(t, w.Append(2, entry(2, "b")))
	d.Cut()
	room := w.Room()
	wantFailure(t, w.Append(3, entry(3, "c")), "append", api.ErrDown)
	wantFailure(t, w.Append(2), "append", api.ErrDown)
	wantFailure(t, w.Append(3), "append", api.ErrDown)
	wantFailure(t, w.Set(wal.Hard{Term: 2}), "set", api.ErrDown)
	wantFailure(t, w.Set(m.hard), "set", api.ErrDown)
	wantFailure(t, w.Keep(wal.Snap{Index: 2, Term: 2}), "keep", api.ErrDown)
	wantFailure(t, w.Sync(), "sync", api.ErrDown)
	wantTells(t, w, m)
	d.On()
	wantTells(t, w, m)
	if w.Room() != room {
		t.Errorf("Room: %d; want %d", w.Room(), room)
	}
	wantNone(t, w.Sync()) // all of that lasts, though it was pending when the power went
	wantTells(t, again(t, d, at, n), m)
}

// TestP602LostUnseen: what a cut between two calls took is not missed by a Sync.
func TestP602LostUnseen(t *testing.T) {
	for ahead := range 30 {
		for behind := range 4 {
			d, w := newLog(t)
			m := blank()
			do := func(i int) {
				e := wal.Entry{Term: 1 + i, Data: drawn(5 + i)}
				m = wantAfter(t, w, m.put(i%6+1, e), w.Append(i%6+1, e))
			}
			for i := range ahead {
				do(i)
				if i == 3 || i == 20 {
					wantNone(t, w.Sync())
				}
			}
			d.Cut(false, true, true)
			d.On()
			for i := range behind {
				do(ahead + i)
			}
			wantNone(t, w.Sync())
			wantTells(t, again(t, d, at, n), m)
		}
	}
}

func TestP2Handed(t *testing.T) {
	d, w := newLog(t)
	whole := []byte("abcdefgh")
	l := []wal.Entry{{Term: 1, Data: whole[1:3]}, {Term: 2, Data: whole[3:3]}, {Term: 9, Data: []byte("spare")}}
	wantNone(t, w.Append(1, l[:2]...))
	s := wal.Snap{Index: 1, Term: 1, Data: whole[5:6]}
	wantNone(t, w.Keep(s))
	wantNone(t, w.Append(3, l[:1]...))
	if string(whole) != "abcdefgh" || l[2].Term != 9 || string(l[2].Data) != "spare" || string(s.Data) != "f" {
		t.Errorf("changed: %q, %v", whole, l)
	}
	m := blank().put(1, entry(1, "bc"), entry(2, "")).keep(wal.Snap{Index: 1, Term: 1, Data: []byte("f")}).put(3, entry(1, "bc"))
	spoil(whole)
	l[0], l[1] = entry(7, "x"), entry(7, "y")
	wantTells(t, w, m)
	wantNone(t, w.Sync())
	wantTells(t, again(t, d, at, n), m)
}

// spoil writes over a list's bytes, and over its spare room.
func spoil(b []byte) {
	b = b[:cap(b)]
	for i := range b {
		b[i] = 0xEE
	}
}

// spoilAll writes over entries, their spare room, and their bytes.
func spoilAll(l []wal.Entry) {
	for _, e := range l {
		spoil(e.Data)
	}
	l = l[:cap(l)]
	for i := range l {
		l[i] = entry(99, "spoilt")
	}
}

// TestP2Told: what is told is new memory each time: of a log that was written, and of one that was opened.
func TestP2Told(t *testing.T) {
	d, w := newLog(t)
	s := wal.Snap{Index: 2, Term: 2, Data: []byte("snap")}
	m := blank().keep(s)
	wantNone(t, w.Keep(s))
	for i := range 7 {
		m = wantAfter(t, w, m.put(3+i, entry(1, "abc")), w.Append(3+i, entry(1, "abc")))
	}
	for range 2 {
		_, l := w.Entries()
		_, other := w.Entries()
		for i := range l {
			spoil(l[i].Data)
			if !sameEntry(other[i], m.list[i]) || i+1 < len(l) && !sameEntry(l[i+1], m.list[i+1]) {
				t.Fatalf("entries share: %v", l)
			}
		}
		spoilAll(l)
		spoil(w.Snap().Data)
		wantTells(t, w, m)
		m = wantAfter(t, w, m.put(m.past(), entry(2, "more")), w.Append(m.past(), entry(2, "more")))
		wantNone(t, w.Sync())
		w = open(t, d, at, n)
	}
	wantTells(t, w, m)
}

// TestP7Apart: logs of two disks have nothing to do with each other.
func TestP7Apart(t *testing.T) {
	_, a := newLog(t)
	_, b := newLog(t)
	wantNone(t, a.Append(1, entry(1, "a")))
	wantNone(t, a.Set(wal.Hard{Term: 3}))
	wantTells(t, b, blank())
}

// TestP3Same: the same calls write the same bytes.
func TestP3Same(t *testing.T) {
	var first []byte
	for range 3 {
		d, w := newLog(t)
		for i := range 50 {
			wantNone(t, w.Append(1+i%5, wal.Entry{Term: 1, Data: drawn(i / 2)}))
			wantNone(t, w.Set(wal.Hard{Term: i}))
		}
		wantNone(t, w.Sync())
		if first == nil {
			first = d.Bytes()
		}
		if string(first) != string(d.Bytes()) {
			t.Error("the bytes are not the same")
		}
	}
}
