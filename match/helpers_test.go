package match_test

import (
	"iter"
	"math"
	"slices"
	"testing"

	"teasel/api"
	"teasel/match"
)

const mostMost = 1 << 16

// farLists are numbers of lists at all ends; some of them would be the same, if their upper bits were lost.
var farLists = []int{math.MinInt, math.MinInt + 1, -1 << 32, -2, -1, 0, 1, 2, api.MaxFlow, api.MaxFlow + 1, 1 << 32, 1<<32 + 1, math.MaxInt}

// row is one thing that All tells.
type row struct {
	list int
	task string
}

func newLists[T any](t *testing.T, most int) *match.Lists[T] {
	t.Helper()
	m, e := match.New[T](most)
	if m == nil || e != api.OK {
		t.Fatalf("New(%d): %v", most, e)
	}
	return m
}

// filled are lists into which those were pushed, in their order.
func filled(t *testing.T, most int, l ...row) *match.Lists[string] {
	t.Helper()
	m := newLists[string](t, most)
	for _, r := range l {
		wantPush(t, m, r.list, r.task, api.OK)
	}
	return m
}

// some are tasks of several lists, in the order in which All tells them.
func some() []row {
	return []row{{-7, "a"}, {0, "b"}, {0, "c"}, {0, "b"}, {3, ""}, {3, "d"}, {1 << 40, "e"}}
}

// mixed are the same, but lists don't rise; each list's tasks come in their order.
func mixed() []row {
	l := some()
	return []row{l[6], l[1], l[4], l[2], l[0], l[5], l[3]}
}

func wantPush[T any](t *testing.T, m *match.Lists[T], list int, task T, want api.Errno) {
	t.Helper()
	if e := m.Push(list, task); e != want {
		t.Errorf("Push(%d, %v): %v; want %v", list, task, e, want)
	}
}

func wantPop[T comparable](t *testing.T, m *match.Lists[T], list int, want T, wantIs bool) {
	t.Helper()
	if task, is := m.Pop(list); task != want || is != wantIs {
		t.Errorf("Pop(%d): %v, %t; want %v, %t", list, task, is, want, wantIs)
	}
}

func wantPeek[T comparable](t *testing.T, m *match.Lists[T], list int, want T, wantIs bool) {
	t.Helper()
	if task, is := m.Peek(list); task != want || is != wantIs {
		t.Errorf("Peek(%d): %v, %t; want %v, %t", list, task, is, want, wantIs)
	}
}

// wantKeep asks how many f says no of, and that it is asked of those, in order.
func wantKeep(t *testing.T, m *match.Lists[string], list int, f func(string) bool, want int, asked ...string) {
	t.Helper()
	var l []string
	n := m.Keep(list, func(task string) bool {
		l = append(l, task)
		return f(task)
	})
	if n != want || !slices.Equal(l, asked) {
		t.Errorf("Keep(%d): %d, asked of %q; want %d, %q", list, n, l, want, asked)
	}
}

func wantClear[T any](t *testing.T, m *match.Lists[T], list, want int) {
	t.Helper()
	if n := m.Clear(list); n != want {
		t.Errorf("Clear(%d): %d; want %d", list, n, want)
	}
}

// wantList asks for one list's count, and whether it is full.
func wantList[T any](t *testing.T, m *match.Lists[T], list, n int, full bool) {
	t.Helper()
	if got, is := m.Len(list), m.Full(list); got != n || is != full {
		t.Errorf("list %d: Len %d, Full %t; want %d, %t", list, got, is, n, full)
	}
}

func wantNames[T any](t *testing.T, m *match.Lists[T], want ...int) {
	t.Helper()
	if l := m.Names(); !slices.Equal(l, want) {
		t.Errorf("Names: %v; want %v", l, want)
	}
}

func wantSeq(t *testing.T, all iter.Seq2[int, string], want ...row) {
	t.Helper()
	var l []row
	for list, task := range all {
		l = append(l, row{list, task})
	}
	if !slices.Equal(l, want) {
		t.Errorf("All: %v; want %v", l, want)
	}
}

// wantRows asks for all that there is, in each way that tells it. It is handed in by list, in order.
func wantRows(t *testing.T, m *match.Lists[string], most int, want ...row) {
	t.Helper()
	wantSeq(t, m.All(), want...)
	var names []int
	first, count := map[int]string{}, map[int]int{}
	for _, r := range want {
		if count[r.list] == 0 {
			names = append(names, r.list)
			first[r.list] = r.task
		}
		count[r.list]++
	}
	wantNames(t, m, names...)
	for _, list := range append(names, farLists...) {
		wantPeek(t, m, list, first[list], count[list] > 0)
		wantList(t, m, list, count[list], count[list] == most)
	}
}

func never(string) bool { return false }

func always(string) bool { return true }
