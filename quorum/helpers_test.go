package quorum_test

import (
	"iter"
	"math"
	"slices"
	"testing"

	"teasel/api"
	"teasel/quorum"
)

const nodes = 9

// extremes are numbers that are no node and no role; some of them would be, if their upper bits were lost.
var extremes = []int{math.MinInt, math.MinInt + 1, -1 << 32, -256, -255, -254, -1, 9, 10, 255, 256, 257, 258, 1 << 32, 1<<32 + 1, math.MaxInt - 1, math.MaxInt}

func newMembers(t *testing.T, voters, learners []int) quorum.Members {
	t.Helper()
	m, e := quorum.Of(voters, learners)
	if e != api.OK {
		t.Fatalf("Of(%v, %v): %v", voters, learners, e)
	}
	return m
}

// allRoles goes over all that nine nodes of three roles may be, without a voter too.
func allRoles() iter.Seq[quorum.Members] {
	return func(yield func(quorum.Members) bool) {
		for n := range 19683 {
			var m quorum.Members
			for k := range m {
				m[k] = byte(n % 3)
				n /= 3
			}
			if !yield(m) {
				return
			}
		}
	}
}

// allRight leaves those out that have no voter.
func allRight() iter.Seq[quorum.Members] {
	return func(yield func(quorum.Members) bool) {
		for m := range allRoles() {
			if len(having(m, quorum.Voter)) > 0 && !yield(m) {
				return
			}
		}
	}
}

// having tells the nodes of a role, found the slow way.
func having(m quorum.Members, role int) []int {
	var l []int
	for k := range nodes {
		if int(m[k]) == role {
			l = append(l, k)
		}
	}
	return l
}

// someWrong are members that are not right.
func someWrong() []quorum.Members {
	return []quorum.Members{
		{},
		{2, 2, 2, 2, 2, 2, 2, 2, 2},
		{0, 0, 0, 0, 0, 0, 0, 0, 2},
		{1, 3},
		{3},
		{1, 0, 0, 0, 0, 0, 0, 0, 3},
		{1, 1, 1, 1, 255, 1, 1, 1, 1},
		{129, 1},
		{255, 254, 253, 252, 251, 250, 249, 248, 247},
	}
}

// bits are a list of so many answers.
func bits(n, length int) []bool {
	l := make([]bool, length)
	for k := range l {
		l[k] = n>>k&1 == 1
	}
	return l
}

func wantOf(t *testing.T, voters, learners []int, want quorum.Members, err api.Errno) {
	t.Helper()
	if m, e := quorum.Of(voters, learners); m != want || e != err {
		t.Errorf("Of(%v, %v): %v, %v; want %v, %v", voters, learners, m, e, want, err)
	}
}

func wantAll(t *testing.T, m quorum.Members, role int, want ...int) {
	t.Helper()
	if l := slices.Collect(quorum.All(m, role)); !slices.Equal(l, want) {
		t.Errorf("All(%v, %d): %v; want %v", m, role, l, want)
	}
	if n := quorum.Count(m, role); n != len(want) {
		t.Errorf("Count(%v, %d): %d; want %d", m, role, n, len(want))
	}
}

func wantVotes(t *testing.T, m quorum.Members, yes []bool, won, lost bool) {
	t.Helper()
	if w, l := quorum.Votes(m, yes); w != won || l != lost {
		t.Errorf("Votes(%v, %v): %v, %v; want %v, %v", m, yes, w, l, won, lost)
	}
}

func wantIndex(t *testing.T, m quorum.Members, match []int, want int) {
	t.Helper()
	if n := quorum.Index(m, match); n != want {
		t.Errorf("Index(%v, %v): %d; want %d", m, match, n, want)
	}
}

func wantChange(t *testing.T, m quorum.Members, node, role int, want quorum.Members, err api.Errno) {
	t.Helper()
	if x, e := quorum.Change(m, node, role); x != want || e != err {
		t.Errorf("Change(%v, %d, %d): %v, %v; want %v, %v", m, node, role, x, e, want, err)
	}
}

func wantDecode(t *testing.T, b []byte, want quorum.Members, err api.Errno) {
	t.Helper()
	if m, e := quorum.Decode(b); m != want || e != err {
		t.Errorf("Decode(%v): %v, %v; want %v, %v", b, m, e, want, err)
	}
}
