package match_test

import (
	"math"
	"testing"

	"teasel/api"
	"teasel/match"
)

func TestP1401New(t *testing.T) {
	for _, most := range []int{1, 2, 3, 1024, mostMost - 1, mostMost} {
		m := newLists[string](t, most)
		wantRows(t, m, most)
		for _, list := range farLists {
			wantPop(t, m, list, "", false)
			wantKeep(t, m, list, never, 0)
			wantClear(t, m, list, 0)
		}
		wantRows(t, m, most)
	}
}

func TestP1401NewArg(t *testing.T) {
	for _, most := range []int{0, -1, -2, mostMost + 1, mostMost + 2, 1 << 32, 1<<32 + 1, -1<<32 + 1, math.MinInt, math.MinInt + 1, math.MaxInt} {
		if m, e := match.New[string](most); m != nil || e != api.ErrArg {
			t.Errorf("New(%d): %v; want arg", most, e)
		}
	}
}

// TestP1401Push: there is a list for each number, and each has its own order.
func TestP1401Push(t *testing.T) {
	m := newLists[string](t, 3)
	var want []row
	for i, list := range farLists {
		wantNames(t, m, farLists[:i]...)
		wantPush(t, m, list, "a", api.OK)
	}
	for _, list := range farLists {
		wantPush(t, m, list, "b", api.OK)
		want = append(want, row{list, "a"}, row{list, "b"})
	}
	wantRows(t, m, 3, want...)
}

// TestP1401Full: at each bound; what is refused has no effect (P5), and one that is full is nothing to the others.
func TestP1401Full(t *testing.T) {
	for _, most := range []int{1, 2, 3, 4, 7, 1024} {
		m := newLists[int](t, most)
		for i := range most {
			wantList(t, m, 5, i, false)
			wantPush(t, m, 5, i, api.OK)
		}
		for range 3 {
			wantPush(t, m, 5, -1, api.ErrFull)
			wantList(t, m, 5, most, true)
		}
		wantPush(t, m, 6, 100, api.OK)
		wantList(t, m, 6, 1, most == 1)
		wantPop(t, m, 5, 0, true)
		wantList(t, m, 5, most-1, false)
		wantPush(t, m, 5, most, api.OK)
		wantPush(t, m, 5, -1, api.ErrFull)
		for i := range most {
			wantPop(t, m, 5, i+1, true)
		}
		wantPop(t, m, 5, 0, false)
		wantPop(t, m, 6, 100, true)
		wantNames(t, m)
	}
}

// TestP1401Most: a list of as many as may be, that goes round many times.
func TestP1401Most(t *testing.T) {
	m := newLists[int](t, mostMost)
	for i := range mostMost {
		wantPush(t, m, 0, i, api.OK)
	}
	wantPush(t, m, 0, -1, api.ErrFull)
	for i := range 3 * mostMost {
		wantPop(t, m, 0, i, true)
		wantPush(t, m, 0, i+mostMost, api.OK)
	}
	wantPush(t, m, 0, -1, api.ErrFull)
	next := 3 * mostMost
	for list, task := range m.All() {
		if list != 0 || task != next {
			t.Fatalf("All: %d, %d; want 0, %d", list, task, next)
		}
		next++
	}
	if n := m.Keep(0, func(task int) bool { return task%2 == 0 }); n != mostMost/2 || m.Len(0) != mostMost/2 {
		t.Errorf("Keep: %d, %d left", n, m.Len(0))
	}
	wantPeek(t, m, 0, 3*mostMost, true)
	wantClear(t, m, 0, mostMost/2)
	wantList(t, m, 0, 0, false)
}

func TestP1401Pop(t *testing.T) {
	m := filled(t, 3, mixed()...)
	for _, r := range some() {
		wantPeek(t, m, r.list, r.task, true)
		wantPeek(t, m, r.list, r.task, true)
		wantPop(t, m, r.list, r.task, true)
	}
	for _, r := range some() {
		wantPeek(t, m, r.list, "", false)
		wantPop(t, m, r.list, "", false)
	}
	wantRows(t, m, 3)
	wantPush(t, m, 0, "again", api.OK)
	wantRows(t, m, 3, row{0, "again"})
}

// TestP1401PopOthers: what one list has is nothing to the others.
func TestP1401PopOthers(t *testing.T) {
	l := some()
	m := filled(t, 3, mixed()...)
	wantPop(t, m, 0, "b", true)
	wantRows(t, m, 3, l[0], l[2], l[3], l[4], l[5], l[6])
	wantPop(t, m, -7, "a", true)
	wantPop(t, m, -7, "", false)
	wantPop(t, m, 1, "", false)
	wantRows(t, m, 3, l[2:]...)
	wantPush(t, m, 0, "f", api.OK)
	wantRows(t, m, 3, l[2], l[3], row{0, "f"}, l[4], l[5], l[6])
}

func TestP1401Clear(t *testing.T) {
	l := some()
	m := filled(t, 3, mixed()...)
	wantClear(t, m, 2, 0)
	wantRows(t, m, 3, l...)
	wantClear(t, m, 0, 3)
	wantRows(t, m, 3, l[0], l[4], l[5], l[6])
	wantClear(t, m, 0, 0)
	wantClear(t, m, 3, 2)
	wantPush(t, m, 0, "f", api.OK)
	wantRows(t, m, 3, l[0], row{0, "f"}, l[6])
	wantClear(t, m, -7, 1)
	wantClear(t, m, 1<<40, 1)
	wantClear(t, m, 0, 1)
	wantRows(t, m, 3)
}

// TestP1401ClearMakesRoom: as much as there was in the beginning.
func TestP1401ClearMakesRoom(t *testing.T) {
	m := filled(t, 2, row{4, "a"}, row{4, "b"})
	for range 3 {
		wantPush(t, m, 4, "c", api.ErrFull)
		wantClear(t, m, 4, 2)
		wantPush(t, m, 4, "a", api.OK)
		wantList(t, m, 4, 1, false)
		wantPush(t, m, 4, "b", api.OK)
		wantRows(t, m, 2, row{4, "a"}, row{4, "b"})
	}
}

// TestP1401Names: rising, only of those that have a task now, however they came to have none.
func TestP1401Names(t *testing.T) {
	m := newLists[string](t, 2)
	for _, list := range []int{5, 1, math.MaxInt, 0, -3, math.MinInt} {
		wantPush(t, m, list, "a", api.OK)
		wantPush(t, m, list, "b", api.OK)
		wantPush(t, m, list, "c", api.ErrFull)
	}
	m.Peek(2)
	m.Pop(3)
	m.Len(4)
	m.Full(6)
	m.Clear(7)
	m.Keep(8, always)
	wantNames(t, m, math.MinInt, -3, 0, 1, 5, math.MaxInt)
	m.Pop(1)
	wantNames(t, m, math.MinInt, -3, 0, 1, 5, math.MaxInt)
	m.Pop(1)
	m.Clear(math.MinInt)
	m.Keep(5, never)
	wantNames(t, m, -3, 0, math.MaxInt)
}

// TestP1None: lists that New did not make have no room, but nothing panics.
func TestP1None(t *testing.T) {
	m := new(match.Lists[string])
	for range 2 {
		for _, list := range farLists {
			wantPush(t, m, list, "a", api.ErrFull)
			wantPop(t, m, list, "", false)
			wantPeek(t, m, list, "", false)
			wantKeep(t, m, list, never, 0)
			wantClear(t, m, list, 0)
			wantList(t, m, list, 0, true)
		}
		wantNames(t, m)
		wantSeq(t, m.All())
	}
}
