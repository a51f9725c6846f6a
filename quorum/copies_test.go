package quorum_test

import (
	"slices"
	"testing"

	"teasel/api"
	"teasel/quorum"
)

// roomy is a list with spare room behind it.
func roomy[T any](spare T, l ...T) []T {
	full := append(slices.Clone(l), spare, spare, spare)
	return full[:len(l)]
}

// wantUnchanged asks for spare room, too.
func wantUnchanged[T comparable](t *testing.T, call string, l []T, spare T, want ...T) {
	t.Helper()
	want = append(want, spare, spare, spare)
	if full := l[:len(want)]; !slices.Equal(full, want) {
		t.Errorf("%s: what was handed in is changed: %v; want %v", call, full, want)
	}
}

// TestP2HandedIn: it is not changed, nor its spare room.
func TestP2HandedIn(t *testing.T) {
	voters, learners := roomy(77, 5, 0, 2), roomy(78, 8, 1)
	m, _ := quorum.Of(voters, learners)
	wantUnchanged(t, "Of", voters, 77, 5, 0, 2)
	wantUnchanged(t, "Of", learners, 78, 8, 1)

	yes := roomy(true, false, true, true)
	quorum.Votes(m, yes)
	wantUnchanged(t, "Votes", yes, true, false, true, true)

	match := roomy(79, 7, 99, -4)
	if n := quorum.Index(m, match); n != 0 {
		t.Errorf("Index looks into spare room: %d", n)
	}
	wantUnchanged(t, "Index", match, 79, 7, 99, -4)

	b := roomy(80, quorum.Encode(m)...)
	x, e := quorum.Decode(b)
	wantUnchanged(t, "Decode", b, 80, m[:]...)
	clear(b)
	if x != m || e != api.OK {
		t.Errorf("Decode kept what it was handed: %v, %v", x, e)
	}
}

// TestP2Answers: each is new memory, its spare room too.
func TestP2Answers(t *testing.T) {
	m := newMembers(t, []int{0, 2, 5}, []int{8})
	b, other := quorum.Encode(m), quorum.Encode(m)
	b = b[:cap(b)]
	for i := range b {
		b[i] = 9
	}
	wantDecode(t, other, m, api.OK)
	wantDecode(t, quorum.Encode(m), m, api.OK)
	if want := newMembers(t, []int{0, 2, 5}, []int{8}); m != want {
		t.Errorf("Encode handed out what it was handed: %v", m)
	}
}
