package dedup_test

import (
	"testing"

	"teasel/dedup"
)

func TestP2Put(t *testing.T) {
	x := newTable(t, 2)
	answer, check := roomy(t, "abc")
	for _, kind := range []int{dedup.New, dedup.Old} {
		if k := x.Put(1, 3, answer); k != kind {
			t.Errorf("Put: %d; want %d", k, kind)
		}
		x.Put(1, 1, answer)
		x.Put(-1, 1, answer)
		check()
	}
	spoil(answer)
	wantRows(t, x, row{1, 3, "abc"})
}

// TestP2Look: each answer is new memory, its spare room too.
func TestP2Look(t *testing.T) {
	x := newTable(t, 2, row{1, 3, "abc"}, row{1, 4, ""})
	for range 2 {
		_, b := x.Look(1, 3)
		_, other := x.Look(1, 3)
		spoil(b)
		if string(other) != "abc" {
			t.Errorf("Look: %q", other)
		}
		_, none := x.Look(1, 4)
		spoil(none)
	}
	wantRows(t, x, row{1, 3, "abc"}, row{1, 4, ""})
}

// TestP2Each: f may do with what it is handed as it likes.
func TestP2Each(t *testing.T) {
	x := newTable(t, 4, mixed()...)
	var kept [][]byte
	for range 2 {
		x.Each(func(_, _ int, answer []byte) bool {
			kept = append(kept, answer)
			return true
		})
	}
	for i, r := range some() {
		spoil(kept[i])
		if other := kept[i+len(some())]; string(other) != r.answer {
			t.Errorf("%q; want %q", other, r.answer)
		}
	}
	wantRows(t, x, some()...)
}

func TestP2Clients(t *testing.T) {
	x := newTable(t, 4, mixed()...)
	l, other := x.Clients(), x.Clients()
	clear(l[:cap(l)])
	if other[1] != 2 {
		t.Errorf("%v", other)
	}
	wantRows(t, x, some()...)
}

func TestP2Text(t *testing.T) {
	x := newTable(t, 4, mixed()...)
	b, other := x.Encode(), x.Encode()
	text, check := roomy(t, string(b))
	spoil(b)
	if string(other) != string(text) {
		t.Errorf("Encode: % x; want % x", other, text)
	}
	y := mustDecode(t, text)
	wantPut(t, y, 0, 5, "new", dedup.New)
	check()
	y = mustDecode(t, text)
	spoil(text)
	wantRows(t, y, some()...)
	wantRows(t, x, some()...)
}

// TestP7Apart: tables have nothing in common.
func TestP7Apart(t *testing.T) {
	x, other := newTable(t, 4), newTable(t, 4)
	wantPut(t, x, 1, 1, "a", dedup.New)
	wantRows(t, other)
	b := x.Encode()
	y, z := mustDecode(t, b), mustDecode(t, b)
	wantPut(t, y, 1, 2, "b", dedup.New)
	wantPut(t, z, 1, 9, "c", dedup.New)
	wantRows(t, x, row{1, 1, "a"})
	wantRows(t, y, row{1, 1, "a"}, row{1, 2, "b"})
	wantRows(t, z, row{1, 9, "c"})
}
