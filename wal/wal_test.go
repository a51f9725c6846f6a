package wal_test

import (
	"bytes"
	"errors"
	"math"
	"strings"
	"testing"

	"teasel/api"
	"teasel/disk"
	"teasel/wal"
)

// places are some that there are, and some that there are not, of a disk of 40 sectors.
var (
	rightPlaces = [][2]int{{0, 16}, {0, 40}, {24, 16}, {1, 39}, {7, 17}, {23, 16}}
	wrongPlaces = [][2]int{
		{0, 15}, {0, 0}, {0, -1}, {0, math.MinInt}, {0, 41}, {25, 16}, {24, 17}, {40, 16}, {41, 16}, {-1, 16}, {-1, 41},
		{-16, 16}, {-1, 17}, {math.MinInt, 16}, {math.MaxInt, 16}, {math.MaxInt, math.MaxInt}, {0, math.MaxInt}, {math.MinInt, math.MinInt},
		{1, math.MaxInt}, {math.MinInt, math.MaxInt}, {math.MinInt + 40, 16}, {30, 10}, {39, 1},
	}
)

func TestP601Format(t *testing.T) {
	for _, p := range rightPlaces {
		d := newDisk(t, 40, size)
		w := format(t, d, p[0], p[1])
		wantTells(t, w, blank())
		if w.Room() < -1 {
			t.Errorf("Format%v: Room: %d", p, w.Room())
		}
		wantTells(t, open(t, d, p[0], p[1]), blank())
	}
}

// TestP601FormatLasts: a log that is formatted is there from then on, without a Sync.
func TestP601FormatLasts(t *testing.T) {
	d, _ := newLog(t)
	wantTells(t, again(t, d, at, n), blank())
}

func TestP601WrongPlaces(t *testing.T) {
	for _, p := range wrongPlaces {
		for _, off := range []bool{false, true} {
			d := newDisk(t, 40, size)
			if off {
				d.Cut()
			}
			w, err := wal.Format(d, p[0], p[1])
			wantFailure(t, err, "format", api.ErrArg)
			x, err := wal.Open(d, p[0], p[1])
			wantFailure(t, err, "open", api.ErrArg)
			if w != nil || x != nil || d.Writes() != 0 {
				t.Errorf("%v: %v, %v, %d writes; want none", p, w, x, d.Writes())
			}
		}
	}
}

func TestP601Down(t *testing.T) {
	for _, p := range rightPlaces {
		d := newDisk(t, 40, size)
		format(t, d, p[0], p[1])
		d.Cut()
		w, err := wal.Format(d, p[0], p[1])
		wantFailure(t, err, "format", api.ErrDown)
		x, err := wal.Open(d, p[0], p[1])
		wantFailure(t, err, "open", api.ErrDown)
		if w != nil || x != nil {
			t.Errorf("P4: %v, %v; want none", w, x)
		}
	}
}

func wantLost(t *testing.T, d *disk.Disk, at, n int) {
	t.Helper()
	w, err := wal.Open(d, at, n)
	wantFailure(t, err, "open", api.ErrLost)
	if w != nil {
		t.Errorf("P4: %v; want none", w)
	}
}

func TestP601Lost(t *testing.T) {
	for _, p := range rightPlaces {
		d := newDisk(t, 40, size)
		wantLost(t, d, p[0], p[1])
		for i := range 40 {
			d.Write(i, drawn(size))
		}
		d.Sync()
		wantLost(t, d, p[0], p[1])
	}
}

// TestP601LostElsewhere: a log is none in other sectors than its own, whatever they share.
func TestP601LostElsewhere(t *testing.T) {
	d := newDisk(t, 140, size)
	w := format(t, d, 0, 64)
	for i := range 20 {
		wantNone(t, w.Append(i+1, entry(1, strings.Repeat("x", 30))))
	}
	for i := range 200 { // so that both halves are written
		wantNone(t, w.Set(wal.Hard{Term: i}))
		wantNone(t, w.Sync())
	}
	for at := range 65 {
		for _, n := range []int{16, 17, 32, 33, 63, 64, 65} {
			if at != 0 || n != 64 {
				wantLost(t, d, at, n)
			}
		}
	}
	open(t, d, 0, 64)
}

func TestP601Open(t *testing.T) {
	d, w := newLog(t)
	m := blank().put(1, entry(3, "a"), entry(4, ""), entry(4, "ccc")).set(wal.Hard{Term: 4, Vote: 2, Commit: 1}).keep(wal.Snap{Index: 1, Term: 3, Data: []byte("s")})
	wantNone(t, w.Append(1, entry(3, "a"), entry(4, ""), entry(4, "ccc")))
	wantNone(t, w.Set(m.hard))
	wantNone(t, w.Keep(m.snap))
	wantTells(t, w, m)
	wantTells(t, open(t, d, at, n), m) // not synced, but the power stayed
	wantNone(t, w.Sync())
	for range 3 {
		before := d.Writes()
		w = again(t, d, at, n)
		wantTells(t, w, m)
		if d.Writes() != before {
			t.Errorf("Open wrote")
		}
	}
}

// TestP601FormatAnew: nothing of a log that was there is left, nor of what is pending of it.
func TestP601FormatAnew(t *testing.T) {
	for synced := range 2 {
		d, w := newLog(t)
		for i := range 10 {
			wantNone(t, w.Append(i+1, entry(1, "abcdefghij")))
			wantNone(t, w.Set(wal.Hard{Term: i, Vote: 1}))
			if synced == 1 {
				wantNone(t, w.Sync())
			}
		}
		w = format(t, d, at, n)
		wantTells(t, w, blank())
		wantTells(t, again(t, d, at, n), blank())
		wantNone(t, w.Append(1, entry(9, "new")))
		wantNone(t, w.Sync())
		wantTells(t, again(t, d, at, n), blank().put(1, entry(9, "new")))
	}
}

// TestP601OtherSectors: a log has its own sectors alone, be others beside it logs or not.
func TestP601OtherSectors(t *testing.T) {
	d := newDisk(t, 80, size)
	for i := range 80 {
		d.Write(i, bytes.Repeat([]byte{byte(100 + i)}, size))
	}
	d.Sync()
	logs := []*wal.Wal{format(t, d, 5, 16), format(t, d, 21, 17), format(t, d, 50, 25)}
	for i := range 200 {
		for k, w := range logs {
			if i%5 == 0 {
				wantNone(t, w.Append(1))
			}
			_, l := w.Entries()
			wantNone(t, w.Append(len(l)+1, wal.Entry{Term: 1 + k, Data: drawn(20 + k)}))
			wantNone(t, w.Set(wal.Hard{Term: i, Vote: k}))
		}
		wantNone(t, logs[i%3].Sync())
	}
	e := func(k int) wal.Entry { return wal.Entry{Term: 1 + k, Data: drawn(20 + k)} }
	for k, p := range [][2]int{{5, 16}, {21, 17}, {50, 25}} {
		m := blank().set(wal.Hard{Term: 199, Vote: k}).put(1, e(k), e(k), e(k), e(k), e(k))
		wantTells(t, logs[k], m)
		wantTells(t, open(t, d, p[0], p[1]), m)
	}
	for i := range 80 {
		if i >= 5 && i < 38 || i >= 50 && i < 75 {
			continue
		}
		if b, _ := d.Read(i); !bytes.Equal(b, bytes.Repeat([]byte{byte(100 + i)}, size)) {
			t.Errorf("sector %d is touched: %v", i, b)
		}
	}
}

// TestP601NeighboursAtTheEnd: where sectors are filled to the last byte, and one more, those behind them are not touched.
func TestP601NeighboursAtTheEnd(t *testing.T) {
	for lead := range 100 {
		d := newDisk(t, 3*n, size)
		for i := range 3 * n {
			d.Write(i, drawn(size))
		}
		d.Sync()
		w := format(t, d, n, n)
		m := blank().put(1, wal.Entry{Term: 1, Data: drawn(lead)})
		wantNone(t, w.Append(1, m.list...))
		for i := range 200 {
			m = m.set(wal.Hard{Term: 1000 + i})
			wantNone(t, w.Set(m.hard))
			if i%10 == 0 {
				wantNone(t, w.Sync())
			}
		}
		wantTells(t, open(t, d, n, n), m)
		for i := range 3 * n {
			if b, _ := d.Read(i); (i < n || i >= 2*n) && !bytes.Equal(b, drawn(size)) {
				t.Fatalf("sector %d is touched: %v", i, b)
			}
		}
	}
}

func TestP601Failure(t *testing.T) {
	f := &wal.Failure{Step: "keep", Err: api.ErrFull}
	if f.Error() != "keep full" || f.Unwrap() != error(api.ErrFull) {
		t.Errorf("%q, %v", f.Error(), f.Unwrap())
	}
	outer := &wal.Failure{Step: "a", Err: f}
	if outer.Error() != "a keep full" || !errors.Is(outer, api.ErrFull) || errors.Is(outer, api.ErrArg) {
		t.Errorf("%q", outer.Error())
	}
	none := &wal.Failure{Step: "x"} // P1
	if none.Unwrap() != nil || !strings.HasPrefix(none.Error(), "x ") {
		t.Errorf("%q, %v", none.Error(), none.Unwrap())
	}
}
