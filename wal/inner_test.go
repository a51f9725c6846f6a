package wal

import (
	"bytes"
	"testing"

	"teasel/api"
	"teasel/codec"
	"teasel/disk"
)

func TestSheetHead(t *testing.T) {
	for size := 64; size <= 1024; size++ {
		s := sheet{edition: mostEditions, place: 1<<13 - 1, bytes: make([]byte, size-sheetHead)}
		body := codec.NewWriter().Int(int64(s.edition)).Int(int64(s.place)).Bytes(s.bytes).Done()
		if b := codec.Frame(body); len(b) > size {
			t.Fatalf("a sheet takes %d bytes of %d", len(b), size)
		}
		x := readSheet(s.lay(size))
		if x.edition != s.edition || x.place != s.place || len(x.bytes) != len(s.bytes) {
			t.Fatalf("%d, %d, %d bytes; want %d, %d, %d", x.edition, x.place, len(x.bytes), s.edition, s.place, len(s.bytes))
		}
	}
}

// TestNoSheet: what is framed as a sheet is, and is none, is nothing of a log.
func TestNoSheet(t *testing.T) {
	body := func(l ...int64) *codec.Writer {
		w := codec.NewWriter()
		for _, v := range l {
			w.Int(v)
		}
		return w
	}
	for name, w := range map[string]*codec.Writer{
		"none": body(), "edition alone": body(1), "edition 0": body(0, 0).Bytes(nil), "edition below": body(-1, 0).Bytes(nil),
		"past editions": body(mostEditions+1, 0).Bytes(nil), "place below": body(1, -1).Bytes(nil), "no bytes": body(1, 0), "bytes short": body(1, 0, 9), "more": body(1, 0, 0, 0),
	} {
		if s := readSheet(codec.Frame(w.Done())); s.edition != 0 || s.place != 0 || s.bytes != nil {
			t.Errorf("%s: %v", name, s)
		}
	}
	if s := readSheet(sheet{1, 0, []byte("x")}.lay(64)); s.edition != 1 || string(s.bytes) != "x" {
		t.Errorf("%v", s)
	}
}

// TestForgedLog: where an entry has, at a sheet's edge, the bytes of a log of other sectors, there is none.
func TestForgedLog(t *testing.T) {
	d, _ := disk.New(32, 64)
	whole, part := area{d, 0, 32}, area{d, 8, 16}
	forged := part.recordOfAll(part.blank())
	for lead := 200; ; lead++ {
		w, err := Format(d, 0, 32)
		if err == nil {
			err = w.Append(1, Entry{Term: 1, Data: make([]byte, lead)}, Entry{Term: 1, Data: forged})
		}
		if err != nil {
			t.Fatal(err)
		}
		l, _ := whole.read()
		if w.edition.half == 0 && bytes.Equal(l[8].bytes, forged) {
			break
		}
	}
	if w, err := Open(d, part.at, part.n); err == nil {
		t.Errorf("%v", w.Hard())
	}
}

// TestHeads: no state takes more bytes as a record than it is counted for.
func TestHeads(t *testing.T) {
	d, _ := disk.New(1<<14, 1024)
	for _, a := range []area{{d, 1<<14 - 16, 16}, {d, 0, 1 << 14}, {d, 0, 16}} {
		s := a.blank()
		s, _ = s.set(Hard{Term: mostNumber, Vote: api.MaxNodes - 1, Commit: mostNumber})
		s, _ = s.keep(Snap{Index: mostNumber, Term: mostNumber, Data: make([]byte, s.room/3)})
		for s.room >= entryHead {
			var err error
			if s, err = s.put(s.first()+len(s.list), []Entry{{Term: mostNumber, Data: make([]byte, min(s.room-entryHead, mostData))}}); err != nil {
				t.Fatal(err)
			}
		}
		if took := len(a.recordOfAll(s)); took > a.most()-s.room {
			t.Errorf("%d bytes; want %d at most", took, a.most()-s.room)
		}
	}
	counted := len(codec.NewWriter().Int(4 * 1 << 20).Int(ofKeep).Int(1 << 14).Int(1 << 14).Int(mostNumber).Int(8).Int(mostNumber).
		Int(mostNumber).Int(mostNumber).Int(4 * 1 << 20).Int(mostNumber + 1).Int(4 * 1 << 20).Done())
	if counted > stateHead {
		t.Errorf("a state's head takes %d bytes; want %d at most", counted, stateHead)
	}
	if took := len(codec.NewWriter().Int(mostNumber).Int(mostData).Done()); took > entryHead {
		t.Errorf("an entry's head takes %d bytes; want %d at most", took, entryHead)
	}
}

// TestChangesLeave: a state is as it was when a change of it was made, and not done.
func TestChangesLeave(t *testing.T) {
	d, _ := disk.New(64, 256)
	s := area{d, 0, 64}.blank()
	for i := range 5 {
		s, _ = s.put(i+1, []Entry{{Term: 1 + i}})
	}
	for from := 1; from <= 6; from++ {
		s.put(from, []Entry{{Term: 9}, {Term: 9}})
		s.keep(Snap{Index: from, Term: from})
		s.set(Hard{Term: from})
		for i, e := range s.list {
			if e.Term != 1+i {
				t.Fatalf("entry %d has Term %d", i+1, e.Term)
			}
		}
		if s.first() != 1 || s.hard != (Hard{Vote: -1}) {
			t.Fatalf("%d, %v", s.first(), s.hard)
		}
	}
}

// TestRecordsThatMayNotBe: a record that none of the calls can have written is not done.
func TestRecordsThatMayNotBe(t *testing.T) {
	d, _ := disk.New(64, 256)
	a := area{d, 0, 64}
	good := a.recordOfAll(a.blank())
	join := func(l ...[]byte) []byte {
		var b []byte
		for _, x := range l {
			b = append(b, x...)
		}
		return b
	}
	for name, text := range map[string][]byte{
		"none":         nil,
		"change first": recordOfSet(Hard{}),
		"all twice":    join(good, good),
		"no kind":      join(good, sealed(writer(ofAll-1))),
		"past kinds":   join(good, sealed(writer(ofKeep+1))),
		"empty":        join(good, sealed(codec.NewWriter())),
		"more":         join(good, sealed(writer(ofSet).Int(1).Int(1).Int(1).Int(1))),
		"less":         join(good, sealed(writer(ofSet).Int(1).Int(1))),
		"from":         join(good, recordOfPut(2, nil)),
		"from 0":       join(good, recordOfPut(0, nil)),
		"term":         join(good, recordOfPut(1, []Entry{{}})),
		"count":        join(good, sealed(writer(ofPut).Int(1).Int(-1))),
		"hard":         join(good, recordOfSet(Hard{Vote: 9})),
		"snap":         join(good, recordOfKeep(Snap{Index: 0, Term: 1})),
		"elsewhere":    area{d, 0, 63}.recordOfAll(area{d, 0, 63}.blank()),
		"shifted":      area{d, 1, 64}.recordOfAll(a.blank()),
	} {
		if s, err := a.replay(text); err == nil {
			t.Errorf("%s: %v", name, s)
		}
	}
	if _, err := a.replay(good); err != nil {
		t.Error(err)
	}
}

// TestTornRecords: of records whose last one is torn all others are done.
func TestTornRecords(t *testing.T) {
	d, _ := disk.New(64, 256)
	a := area{d, 0, 64}
	good := a.recordOfAll(a.blank())
	for i := range good {
		if _, err := a.replay(good[:i]); err == nil {
			t.Fatalf("%d bytes are taken for a state", i)
		}
	}
	text := append(good, recordOfPut(1, []Entry{{Term: 1, Data: make([]byte, 200)}})...)
	for i := len(good); i < len(text); i++ {
		if s, err := a.replay(text[:i]); err != nil || len(s.list) != 0 {
			t.Fatalf("%d bytes: %v, %v", i, s.list, err)
		}
	}
	if s, err := a.replay(text); err != nil || len(s.list) != 1 {
		t.Errorf("%v, %v", s.list, err)
	}
}
