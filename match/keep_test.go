package match_test

import (
	"slices"
	"strings"
	"testing"

	"teasel/api"
)

// TestP1401Keep: each way in which f may say of five tasks.
func TestP1401Keep(t *testing.T) {
	names := []string{"a", "b", "c", "d", "e"}
	for yes := range 1 << len(names) {
		m := filled(t, 5, row{1, "a"}, row{3, "a"})
		var want []row
		gone := 0
		for i, name := range names {
			wantPush(t, m, 2, name, api.OK)
			if yes>>i&1 == 1 {
				want = append(want, row{2, name})
			} else {
				gone++
			}
		}
		says := func(name string) bool { return yes>>strings.Index("abcde", name)&1 == 1 }
		wantKeep(t, m, 2, says, gone, names...)
		want = append(append([]row{{1, "a"}}, want...), row{3, "a"})
		wantRows(t, m, 5, want...)
		wantKeep(t, m, 2, always, 0, namesOf(want, 2)...)
		wantRows(t, m, 5, want...)
	}
}

// namesOf are the tasks of a list.
func namesOf(l []row, list int) []string {
	var names []string
	for _, r := range l {
		if r.list == list {
			names = append(names, r.task)
		}
	}
	return names
}

// TestP1401KeepAlike: tasks that are the same are asked of one by one.
func TestP1401KeepAlike(t *testing.T) {
	m := filled(t, 4, row{0, "a"}, row{0, "a"}, row{0, "b"}, row{0, "a"})
	n := 0
	second := func(string) bool {
		n++
		return n != 2
	}
	wantKeep(t, m, 0, second, 1, "a", "a", "b", "a")
	wantRows(t, m, 4, row{0, "a"}, row{0, "b"}, row{0, "a"})
}

// TestP1401KeepMakesRoom: what is pushed then stands behind what is left.
func TestP1401KeepMakesRoom(t *testing.T) {
	m := filled(t, 3, row{0, "a"}, row{0, "b"}, row{0, "c"})
	wantKeep(t, m, 0, func(s string) bool { return s == "b" }, 2, "a", "b", "c")
	wantList(t, m, 0, 1, false)
	wantPush(t, m, 0, "d", api.OK)
	wantPush(t, m, 0, "e", api.OK)
	wantPush(t, m, 0, "f", api.ErrFull)
	wantRows(t, m, 3, row{0, "b"}, row{0, "d"}, row{0, "e"})
	wantKeep(t, m, 0, never, 3, "b", "d", "e")
	wantKeep(t, m, 0, never, 0)
	wantRows(t, m, 3)
}

// TestP1401KeepBehindPop: behind some that were taken.
func TestP1401KeepBehindPop(t *testing.T) {
	m := filled(t, 4, row{0, "a"}, row{0, "b"}, row{0, "c"}, row{0, "d"})
	wantPop(t, m, 0, "a", true)
	wantPop(t, m, 0, "b", true)
	wantPush(t, m, 0, "e", api.OK)
	wantKeep(t, m, 0, func(s string) bool { return s != "d" }, 1, "c", "d", "e")
	wantPop(t, m, 0, "c", true)
	wantRows(t, m, 4, row{0, "e"})
}

// TestP1401KeepPushes: f may push, to this list or others; it is not asked of what it pushes itself (P1: else it might never end).
func TestP1401KeepPushes(t *testing.T) {
	m := filled(t, 5, row{2, "a"}, row{2, "b"}, row{2, "c"})
	push := func(s string) bool {
		m.Push(2, s+s)
		m.Push(1, s+s)
		return s == "b"
	}
	wantKeep(t, m, 2, push, 2, "a", "b", "c")
	wantRows(t, m, 5, row{1, "aa"}, row{1, "bb"}, row{1, "cc"}, row{2, "b"}, row{2, "aa"}, row{2, "bb"})
}

// TestP1401KeepTakes: f may take tasks; others than those that it says no of stay, be they ever so alike.
func TestP1401KeepTakes(t *testing.T) {
	m := filled(t, 4, row{2, "a"}, row{2, "b"}, row{2, "a"}, row{2, "d"})
	take := func(s string) bool {
		if s == "b" {
			wantPop(t, m, 2, "a", true)
			wantPop(t, m, 2, "b", true)
			wantPush(t, m, 2, "b", api.OK)
		}
		return s != "b"
	}
	wantKeep(t, m, 2, take, 1, "a", "b", "a", "d")
	wantRows(t, m, 4, row{2, "a"}, row{2, "d"}, row{2, "b"})
	emptied := func(s string) bool {
		m.Clear(2)
		return s == "d"
	}
	wantKeep(t, m, 2, emptied, 2, "a", "d", "b")
	wantRows(t, m, 4)
}

// TestP1401KeepInKeep: one within the other, each asked of all.
func TestP1401KeepInKeep(t *testing.T) {
	m := filled(t, 4, row{2, "a"}, row{2, "b"}, row{2, "c"}, row{2, "d"})
	outer := func(s string) bool {
		if s == "b" {
			wantKeep(t, m, 2, func(s string) bool { return s != "c" }, 1, "a", "b", "c", "d")
		}
		return s != "a"
	}
	wantKeep(t, m, 2, outer, 1, "a", "b", "c", "d")
	wantRows(t, m, 4, row{2, "b"}, row{2, "d"})
}

// TestP1401KeepAsks: as long as f is asked, nothing is gone.
func TestP1401KeepAsks(t *testing.T) {
	l := []row{{1, "x"}, {2, "a"}, {2, "b"}, {2, "c"}}
	m := filled(t, 3, l...)
	wantKeep(t, m, 2, func(string) bool {
		wantRows(t, m, 3, l...)
		wantPush(t, m, 2, "d", api.ErrFull)
		return false
	}, 3, "a", "b", "c")
	wantRows(t, m, 3, l[0])
}

// TestP1401KeepHandsOn: what f does to a task that points somewhere is done to what is kept.
func TestP1401KeepHandsOn(t *testing.T) {
	m := newLists[*int](t, 3)
	n := []int{1, 2, 3}
	for i := range n {
		wantPush(t, m, 0, &n[i], api.OK)
	}
	gone := m.Keep(0, func(p *int) bool {
		*p *= 10
		return *p != 20
	})
	if gone != 1 || !slices.Equal(n, []int{10, 20, 30}) {
		t.Errorf("Keep: %d; %v", gone, n)
	}
	wantPop(t, m, 0, &n[0], true)
	wantPop(t, m, 0, &n[2], true)
	wantPop(t, m, 0, nil, false)
}
