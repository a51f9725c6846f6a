package match_test

import (
	"slices"
	"testing"

	"teasel/api"
)

// TestP2Names: each answer is new memory, its spare room too.
func TestP2Names(t *testing.T) {
	m := filled(t, 3, mixed()...)
	l, other := m.Names(), m.Names()
	l = l[:cap(l)]
	for i := range l {
		l[i] = 99
	}
	if want := []int{-7, 0, 3, 1 << 40}; !slices.Equal(other, want) {
		t.Errorf("Names: %v; want %v", other, want)
	}
	wantRows(t, m, 3, some()...)
}

// TestP2Tasks: an array that is pushed is a task of its own, and so is each that is told.
func TestP2Tasks(t *testing.T) {
	m := newLists[[2]int](t, 3)
	a := [2]int{1, 2}
	wantPush(t, m, 0, a, api.OK)
	a[0] = 9
	peeked, _ := m.Peek(0)
	peeked[0] = 9
	m.Keep(0, func(a [2]int) bool {
		a[1] = 9
		return true
	})
	for range 2 {
		for _, a := range m.All() {
			if a != [2]int{1, 2} {
				t.Errorf("All: %v", a)
			}
			a[0] = 9
		}
	}
	wantPop(t, m, 0, [2]int{1, 2}, true)
}

// TestP7Apart: lists of two News have nothing in common.
func TestP7Apart(t *testing.T) {
	m, other := newLists[string](t, 1), newLists[string](t, 1)
	wantPush(t, m, 0, "a", api.OK)
	wantRows(t, other, 1)
	wantPush(t, other, 0, "b", api.OK)
	wantPush(t, other, 1, "c", api.OK)
	wantClear(t, m, 1, 0)
	wantPop(t, m, 0, "a", true)
	wantRows(t, m, 1)
	wantRows(t, other, 1, row{0, "b"}, row{1, "c"})
}

// TestP1401Types: tasks of whatever type, such as can't be compared, or have no bytes.
func TestP1401Types(t *testing.T) {
	bytes := newLists[[]byte](t, 2)
	wantPush(t, bytes, 1, nil, api.OK)
	wantPush(t, bytes, 1, []byte("ab"), api.OK)
	if b, is := bytes.Pop(1); b != nil || !is {
		t.Errorf("Pop: %q, %t", b, is)
	}
	if n := bytes.Keep(1, func(b []byte) bool { return string(b) != "ab" }); n != 1 {
		t.Errorf("Keep: %d", n)
	}
	if b, is := bytes.Pop(1); b != nil || is {
		t.Errorf("Pop: %q, %t", b, is)
	}

	tokens := newLists[api.Token](t, 2)
	wantPush(t, tokens, 1, api.Token{Flow: 3, Run: 1}, api.OK)
	wantPush(t, tokens, 1, api.Token{}, api.OK)
	wantPop(t, tokens, 1, api.Token{Flow: 3, Run: 1}, true)
	wantPop(t, tokens, 1, api.Token{}, true)
	wantPop(t, tokens, 1, api.Token{}, false)

	calls := newLists[func() int](t, 2)
	calls.Push(1, func() int { return 7 })
	if f, is := calls.Pop(1); !is || f() != 7 {
		t.Error("Pop of a function")
	}
	if f, is := calls.Pop(1); f != nil || is {
		t.Error("Pop of none")
	}
}

// TestP1401KeepOfNothing: tasks without bytes, of which each is still asked by itself.
func TestP1401KeepOfNothing(t *testing.T) {
	m := newLists[struct{}](t, 4)
	for range 4 {
		wantPush(t, m, 1, struct{}{}, api.OK)
	}
	n := 0
	gone := m.Keep(1, func(struct{}) bool {
		n++
		return n == 2
	})
	if gone != 3 || n != 4 {
		t.Errorf("Keep: %d, asked of %d", gone, n)
	}
	wantList(t, m, 1, 1, false)
	wantPop(t, m, 1, struct{}{}, true)
	wantPop(t, m, 1, struct{}{}, false)
}
