package wal_test

import (
	"bytes"
	"slices"
	"testing"

	"teasel/api"
	"teasel/disk"
	"teasel/draws"
	"teasel/wal"
)

// laid is a disk that has these bytes.
func laid(t *testing.T, b []byte, size int) *disk.Disk {
	t.Helper()
	d := newDisk(t, len(b)/size, size)
	for i := range len(b) / size {
		d.Write(i, b[i*size:(i+1)*size])
	}
	d.Sync()
	return d
}

// wantEnds holds that Open answers that there is no log, or one that can be used. It tells that one.
func wantEnds(t *testing.T, d *disk.Disk, at, n int) (m model, is bool) {
	t.Helper()
	w, err := wal.Open(d, at, n)
	if err != nil {
		wantFailure(t, err, "open", api.ErrLost)
		return model{}, false
	}
	m = told(w)
	x := &life{t: t, d: d, w: w, now: m, may: []model{m}}
	if w.Room() >= 2 {
		x.goOn(at, n)
	}
	return m, true
}

func told(w *wal.Wal) model {
	_, l := w.Entries()
	return model{w.Hard(), w.Snap(), l}
}

func sameModel(a, b model) bool {
	return a.hard == b.hard && a.snap.Index == b.snap.Index && a.snap.Term == b.snap.Term &&
		bytes.Equal(a.snap.Data, b.snap.Data) && slices.EqualFunc(a.list, b.list, sameEntry)
}

// images are the bytes of disks that rows were written to, as far as some call, and what they told by then.
func images(t *testing.T) (l [][]byte, past [][]model) {
	for _, row := range rows() {
		x := newLife(t, at+n+4, size, at, n)
		models := []model{x.now}
		for i, s := range row {
			x.do(s)
			models = append(models, x.now)
			if i%4 == 3 {
				x.d.Sync()
				l, past = append(l, x.d.Bytes()), append(past, slices.Clone(models))
			}
		}
	}
	return l, past
}

// TestP603AnyByte: Open ends of a log of which one byte is another one, and tells what was told once.
func TestP603AnyByte(t *testing.T) {
	l, past := images(t)
	for k, image := range l {
		for i := k % 3; i < len(image); i += 3 {
			b := bytes.Clone(image)
			b[i] ^= byte(1 << (i % 8))
			m, is := wantEnds(t, laid(t, b, size), at, n)
			if is && !slices.ContainsFunc(past[k], func(x model) bool { return sameModel(m, x) }) {
				t.Fatalf("image %d, byte %d: %v", k, i, m)
			}
		}
	}
}

// TestP603AnyBytes: Open ends of whatever there is: sectors that are lost, stand elsewhere, are of another log, or are none at all. So does Format, and there is a log.
func TestP603AnyBytes(t *testing.T) {
	s := draws.New(12)
	l, _ := images(t)
	for range 1500 {
		b := bytes.Clone(l[s.Below(len(l))])
		for range s.Between(1, 8) {
			other := l[s.Below(len(l))]
			to, from := size*s.Below(len(b)/size), size*s.Below(len(b)/size)
			sector := b[to : to+size]
			switch s.Below(6) {
			case 0:
				clear(sector)
			case 1:
				copy(sector, drawn(size+s.Below(99)))
			case 2:
				copy(sector, b[from:])
			case 3:
				copy(sector, other[to:])
			case 4:
				copy(sector, other[from:])
			default:
				sector[s.Below(size)] = byte(s.Next())
			}
		}
		wantEnds(t, laid(t, b, size), at, n)
		d := laid(t, b, size)
		wantTells(t, format(t, d, at, n), blank())
		if m, is := wantEnds(t, d, at, n); !is || !sameModel(m, blank()) {
			t.Fatalf("%v, %t; want a new log", m, is)
		}
	}
}

// TestP603OneByteAlike: nor does Open fail on bytes that are all the same.
func TestP603OneByteAlike(t *testing.T) {
	for c := range 256 {
		d := laid(t, bytes.Repeat([]byte{byte(c)}, 40*size), size)
		wantLost(t, d, at, n)
		wantTells(t, format(t, d, at, n), blank())
	}
}

// TestP603Copied: a log is what its sectors hold, be they on whichever disk.
func TestP603Copied(t *testing.T) {
	l, past := images(t)
	for k, image := range l {
		m, is := wantEnds(t, laid(t, image, size), at, n)
		if !is || !sameModel(m, past[k][len(past[k])-1]) {
			t.Fatalf("%v, %t; want %v", m, is, past[k])
		}
	}
}
