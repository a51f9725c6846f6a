package match_test

import (
	"slices"
	"testing"

	"teasel/api"
)

func TestP1401All(t *testing.T) {
	wantRows(t, filled(t, 3, some()...), 3, some()...)
	wantRows(t, filled(t, 3, mixed()...), 3, some()...)
	wantSeq(t, newLists[string](t, 1).All())
}

// TestP1401AllLeft (P7): early, at each place, and ranged over again.
func TestP1401AllLeft(t *testing.T) {
	all := filled(t, 3, mixed()...).All()
	for most := 1; most <= len(some())+1; most++ {
		var l []row
		for list, task := range all {
			l = append(l, row{list, task})
			if len(l) == most {
				break
			}
		}
		if want := some()[:min(most, len(some()))]; !slices.Equal(l, want) {
			t.Errorf("All, left behind %d: %v; want %v", most, l, want)
		}
		wantSeq(t, all, some()...)
	}
}

// TestP1401AllThen (P7): it goes over what there was when it was made, whatever is called behind that.
func TestP1401AllThen(t *testing.T) {
	m := filled(t, 3, mixed()...)
	none := newLists[string](t, 3).All()
	before := m.All()
	check := func() {
		t.Helper()
		wantSeq(t, before, some()...)
		wantSeq(t, none)
	}
	m.Push(3, "new")
	m.Push(-8, "new")
	check()
	m.Pop(0)
	check()
	m.Push(0, "new")
	m.Push(0, "full")
	check()
	m.Keep(0, never)
	check()
	m.Keep(3, func(s string) bool { return s != "" })
	check()
	m.Clear(-7)
	m.Clear(1 << 40)
	check()
	m.Push(1<<40, "new")
	check()
	wantRows(t, m, 3, row{-8, "new"}, row{3, "d"}, row{3, "new"}, row{1 << 40, "new"})
	check()
}

// TestP1401AllWithin: the lists are called within the ranging.
func TestP1401AllWithin(t *testing.T) {
	m := filled(t, 3, mixed()...)
	var l []row
	for list, task := range m.All() {
		l = append(l, row{list, task})
		wantPop(t, m, list, task, true)
		wantPush(t, m, list+1, task, api.OK)
	}
	if !slices.Equal(l, some()) {
		t.Errorf("All: %v; want %v", l, some())
	}
	for _, r := range slices.Backward(some()) {
		m.Clear(r.list)
	}
	wantRows(t, m, 3, row{-6, "a"}, row{1, "b"}, row{1, "c"}, row{1, "b"}, row{4, ""}, row{4, "d"}, row{1<<40 + 1, "e"})
}

// TestP1401AllInAll: one within the other, each whole.
func TestP1401AllInAll(t *testing.T) {
	all := filled(t, 3, mixed()...).All()
	n := 0
	for range all {
		n++
		wantSeq(t, all, some()...)
	}
	if n != len(some()) {
		t.Errorf("%d were told", n)
	}
}

// TestP1401Twin: what All tells makes the same lists.
func TestP1401Twin(t *testing.T) {
	m, twin := filled(t, 3, mixed()...), newLists[string](t, 3)
	for list, task := range m.All() {
		wantPush(t, twin, list, task, api.OK)
	}
	wantRows(t, twin, 3, some()...)
	wantClear(t, twin, 0, 3)
	wantRows(t, m, 3, some()...)
}
