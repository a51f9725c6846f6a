package wal_test

import (
	"testing"

	"teasel/api"
	"teasel/wal"
)

// TestP602RoomOfNew: at least the sectors' bytes by 4, less 1024; but no entry may have more than 1 << 18.
func TestP602RoomOfNew(t *testing.T) {
	for _, c := range [][2]int{
		{16, 64}, {16, 65}, {16, 1023}, {16, 1024}, {17, 64}, {17, 1024}, {31, 512}, {63, 64}, {64, 256}, {65, 256}, {100, 256}, {2048, 256},
		{1001, 1001}, {1 << 14, 64}, {1<<14 - 1, 64}, {1 << 14, 65}, {5000, 100}, {1027, 1024}, {1 << 14, 1024},
	} {
		d := newDisk(t, c[0], c[1])
		w := format(t, d, 0, c[0])
		want := min(c[0]*c[1]/4-1024, mostData)
		if w.Room() < want {
			t.Errorf("%v: Room: %d; want %d at least", c, w.Room(), want)
		}
		wantRoomIsTrue(t, w)
	}
}

// wantRoomIsTrue holds Room against what one more entry may have.
func wantRoomIsTrue(t *testing.T, w *wal.Wal) {
	t.Helper()
	first, l := w.Entries()
	past, room := first+len(l), w.Room()
	if room < mostData {
		wantFailure(t, w.Append(past, wal.Entry{Term: mostNumber, Data: make([]byte, room+1)}), "append", api.ErrFull)
	}
	if room < 0 {
		if room != -1 {
			t.Errorf("Room: %d; want -1 of none", room)
		}
		return
	}
	e := wal.Entry{Term: mostNumber, Data: drawn(room)}
	wantNone(t, w.Append(past, e))
	if _, x := w.Entries(); len(x) != len(l)+1 || !sameEntry(x[len(l)], e) {
		t.Errorf("an entry of %d bytes is not there", room)
	}
	if room < mostData && w.Room() > 0 {
		t.Errorf("Room: %d behind an entry that had all of it", w.Room())
	}
	wantNone(t, w.Append(past))
	if w.Room() != room {
		t.Errorf("Room: %d; want %d again", w.Room(), room)
	}
}

// wantRoomOf holds Room against that of a new log of as many sectors that was told the same at once.
func wantRoomOf(t *testing.T, w *wal.Wal, m model, n, size int) {
	t.Helper()
	x := format(t, newDisk(t, n, size), 0, n)
	if m.snap.Index > 0 {
		wantNone(t, x.Keep(m.snap))
	}
	wantNone(t, x.Append(m.snap.Index+1, m.list...))
	if w.Room() != x.Room() {
		t.Fatalf("Room: %d; want %d", w.Room(), x.Room())
	}
}

// TestP602RoomGoes: entries and snapshots take it, and give it back; it is the same of a log that is opened.
func TestP602RoomGoes(t *testing.T) {
	d := newDisk(t, 40, 128)
	w := format(t, d, 0, 40)
	fresh := w.Room()
	m := blank()
	for w.Room() >= 0 {
		wantRoomIsTrue(t, w)
		e := wal.Entry{Term: 1, Data: drawn(min(w.Room(), 100))}
		before := w.Room()
		m = wantAfter(t, w, m.put(m.past(), e), w.Append(m.past(), e))
		if w.Room() >= before {
			t.Errorf("Room: %d, behind %d", w.Room(), before)
		}
		wantNone(t, w.Sync())
		if x := again(t, d, 0, 40); x.Room() != w.Room() {
			t.Errorf("Room: %d; want %d", x.Room(), w.Room())
		}
	}
	wantFailure(t, w.Append(m.past(), entry(1, "")), "append", api.ErrFull)
	wantFailure(t, w.Append(1, append(m.list, entry(1, ""))...), "append", api.ErrFull)
	wantFailure(t, w.Keep(wal.Snap{Index: 1, Term: 9, Data: drawn(40 * 128)}), "keep", api.ErrFull)
	wantTells(t, w, m)
	m = wantAfter(t, w, m.keep(wal.Snap{Index: m.past() - 1, Term: 1}), w.Keep(wal.Snap{Index: m.past() - 1, Term: 1}))
	if w.Room() != fresh {
		t.Errorf("Room: %d; want %d again", w.Room(), fresh)
	}
	m = wantAfter(t, w, m.put(m.past(), wal.Entry{Term: 1, Data: drawn(fresh)}), w.Append(m.past(), wal.Entry{Term: 1, Data: drawn(fresh)}))
	wantNone(t, w.Sync())
	wantTells(t, again(t, d, 0, 40), m)
}

// TestP602FullSnap: a snapshot takes room from entries, and an empty one gives it back.
func TestP602FullSnap(t *testing.T) {
	_, w := newLog(t)
	fresh := w.Room()
	lo, hi := 0, n*size // the most bytes that a snapshot may have
	for lo < hi {
		mid := (lo + hi + 1) / 2
		x, m := wal.Snap{Index: 1, Term: 1, Data: drawn(mid)}, blank()
		_, w := newLog(t)
		if err := w.Keep(x); err == nil {
			wantTells(t, w, m.keep(x))
			lo = mid
		} else {
			wantFailure(t, err, "keep", api.ErrFull)
			wantTells(t, w, m)
			hi = mid - 1
		}
	}
	if lo < fresh {
		t.Errorf("a snapshot may have %d bytes, an entry %d", lo, fresh)
	}
	wantNone(t, w.Keep(wal.Snap{Index: 1, Term: 1, Data: drawn(lo)}))
	if w.Room() != -1 {
		t.Errorf("Room: %d; want -1", w.Room())
	}
	wantFailure(t, w.Append(2, entry(1, "")), "append", api.ErrFull)
	for range 100 {
		wantNone(t, w.Set(wal.Hard{Term: mostNumber, Vote: 8, Commit: mostNumber}))
	}
	wantNone(t, w.Keep(wal.Snap{Index: 2, Term: 1, Data: drawn(lo)})) // in place of the other one
	wantNone(t, w.Keep(wal.Snap{Index: 3, Term: 1}))
	if w.Room() != fresh {
		t.Errorf("Room: %d; want %d", w.Room(), fresh)
	}
}

// TestP602RoomOfKept: a snapshot gives back the room of those entries alone that are no more.
func TestP602RoomOfKept(t *testing.T) {
	for _, term := range []int{1, 2} {
		d, w := newLog(t)
		m := blank()
		for i := range 6 {
			m = wantAfter(t, w, m.put(i+1, wal.Entry{Term: 1, Data: drawn(5 + i)}), w.Append(i+1, wal.Entry{Term: 1, Data: drawn(5 + i)}))
		}
		for i := 2; i < 9; i += 2 {
			s := wal.Snap{Index: i, Term: term, Data: drawn(i)}
			m = wantAfter(t, w, m.keep(s), w.Keep(s))
			wantRoomOf(t, w, m, n, size)
			wantRoomOf(t, open(t, d, at, n), m, n, size)
			wantRoomIsTrue(t, w)
		}
	}
}

// TestP602SmallEntries: a log that is full of entries without Data, of great Terms, lasts as any other.
func TestP602SmallEntries(t *testing.T) {
	d := newDisk(t, 64, size)
	w := format(t, d, 0, 64)
	m := blank().keep(wal.Snap{Index: mostNumber, Term: mostNumber}).set(wal.Hard{Term: mostNumber, Vote: 8, Commit: mostNumber})
	wantNone(t, w.Keep(m.snap))
	wantNone(t, w.Set(m.hard))
	for w.Room() >= 0 {
		m = wantAfter(t, w, m.put(m.past(), entry(mostNumber, "")), w.Append(m.past(), entry(mostNumber, "")))
	}
	wantFailure(t, w.Append(m.past(), entry(1, "")), "append", api.ErrFull)
	for range 300 {
		wantNone(t, w.Set(m.hard))
	}
	wantNone(t, w.Sync())
	wantTells(t, again(t, d, 0, 64), m)
}

// TestP602FullLogGoesOn: a log that has no room is set, cut back and synced as often as one likes.
func TestP602FullLogGoesOn(t *testing.T) {
	for _, syncs := range []int{1, 7, 1 << 20} {
		d, w := newLog(t)
		m := blank()
		for w.Room() >= 5 {
			m = wantAfter(t, w, m.put(m.past(), entry(1, "abcde")), w.Append(m.past(), entry(1, "abcde")))
		}
		for i := range 500 {
			h := wal.Hard{Term: mostNumber - i, Vote: i % 9, Commit: mostNumber - i}
			m = wantAfter(t, w, m.set(h), w.Set(h))
			from, e := i%(m.past()-1)+1, m.list[len(m.list)-1]
			var l []wal.Entry
			for range m.past() - from {
				l = append(l, e)
			}
			m = wantAfter(t, w, m.put(from, l...), w.Append(from, l...))
			if i%syncs == 0 {
				wantNone(t, w.Sync())
				wantTells(t, again(t, d, at, n), m)
			}
		}
		m = wantAfter(t, w, m.put(1), w.Append(1))
		wantNone(t, w.Sync())
		wantTells(t, again(t, d, at, n), m)
	}
}
