package quorum_test

import (
	"slices"
	"testing"

	"teasel/api"
	"teasel/quorum"
)

func TestP801Of(t *testing.T) {
	wantOf(t, []int{0, 2, 5}, []int{8}, quorum.Members{1, 0, 1, 0, 0, 1, 0, 0, 2}, api.OK)
	wantOf(t, []int{5, 0, 2}, []int{8, 1}, quorum.Members{1, 2, 1, 0, 0, 1, 0, 0, 2}, api.OK)
	wantOf(t, []int{8}, nil, quorum.Members{8: 1}, api.OK)
	wantOf(t, []int{0}, []int{}, quorum.Members{1}, api.OK)
	wantOf(t, []int{8, 7, 6, 5, 4, 3, 2, 1, 0}, nil, quorum.Members{1, 1, 1, 1, 1, 1, 1, 1, 1}, api.OK)
	wantOf(t, []int{4}, []int{8, 7, 6, 5, 3, 2, 1, 0}, quorum.Members{2, 2, 2, 2, 1, 2, 2, 2, 2}, api.OK)
}

func TestP801OfNoNode(t *testing.T) {
	for _, k := range extremes {
		wantOf(t, []int{k}, nil, quorum.Members{}, api.ErrArg)
		wantOf(t, []int{0, k, 1}, nil, quorum.Members{}, api.ErrArg)
		wantOf(t, []int{0, 1}, []int{k}, quorum.Members{}, api.ErrArg)
		wantOf(t, []int{0, 1}, []int{2, k}, quorum.Members{}, api.ErrArg)
	}
}

func TestP801OfTwice(t *testing.T) {
	for k := range nodes {
		wantOf(t, []int{k, k}, nil, quorum.Members{}, api.ErrArg)
		wantOf(t, []int{k}, []int{k}, quorum.Members{}, api.ErrArg)
		other := (k + 1) % nodes
		wantOf(t, []int{other}, []int{k, k}, quorum.Members{}, api.ErrArg)
		wantOf(t, []int{k, other, k}, nil, quorum.Members{}, api.ErrArg)
		wantOf(t, []int{k, other}, []int{(k + 2) % nodes, k}, quorum.Members{}, api.ErrArg)
	}
	wantOf(t, []int{0, 1, 2, 3, 4, 5, 6, 7, 8, 0}, nil, quorum.Members{}, api.ErrArg)
}

func TestP801OfNoVoter(t *testing.T) {
	wantOf(t, nil, nil, quorum.Members{}, api.ErrArg)
	wantOf(t, []int{}, []int{}, quorum.Members{}, api.ErrArg)
	wantOf(t, nil, []int{0}, quorum.Members{}, api.ErrArg)
	wantOf(t, nil, []int{0, 1, 2, 3, 4, 5, 6, 7, 8}, quorum.Members{}, api.ErrArg)
}

// TestP801Each: of all nodes and roles.
func TestP801Each(t *testing.T) {
	for m := range allRoles() {
		voters, learners := having(m, quorum.Voter), having(m, quorum.Learner)
		right := len(voters) > 0
		if quorum.Right(m) != right {
			t.Errorf("Right(%v): %v; want %v", m, !right, right)
		}
		if right {
			wantOf(t, voters, learners, m, api.OK)
			slices.Reverse(voters)
			slices.Reverse(learners)
			wantOf(t, voters, learners, m, api.OK)
			wantAll(t, m, quorum.None, having(m, quorum.None)...)
			wantAll(t, m, quorum.Voter, having(m, quorum.Voter)...)
			wantAll(t, m, quorum.Learner, having(m, quorum.Learner)...)
		} else {
			wantOf(t, voters, learners, quorum.Members{}, api.ErrArg)
		}
	}
}

func TestP801NotRight(t *testing.T) {
	for _, m := range someWrong() {
		if quorum.Right(m) {
			t.Errorf("Right(%v)", m)
		}
	}
	for k := range nodes {
		for role := range 256 {
			m := quorum.Members{1, 1, 1, 1, 1, 1, 1, 1, 1}
			m[k] = byte(role)
			if want := role < 3; quorum.Right(m) != want {
				t.Errorf("Right(%v): %v; want %v", m, !want, want)
			}
		}
	}
}

// TestP801NoRole: nobody has a role that is none, though its lowest bits may be one's.
func TestP801NoRole(t *testing.T) {
	for _, m := range []quorum.Members{{1}, {1, 1, 1, 1, 1, 1, 1, 1, 1}, {0, 1, 2, 0, 1, 2, 0, 1, 2}} {
		for _, role := range append(extremes, 3, 4) {
			wantAll(t, m, role)
		}
	}
}

// TestP7AllLeft: what All answers may be left early, and ranged over again, from its beginning on.
func TestP7AllLeft(t *testing.T) {
	all := quorum.All(newMembers(t, []int{1, 3, 5, 8}, []int{2}), quorum.Voter)
	want := []int{1, 3, 5, 8}
	for most := range len(want) + 1 {
		var l []int
		for k := range all {
			if l = append(l, k); len(l) >= most {
				break
			}
		}
		if n := max(most, 1); !slices.Equal(l, want[:n]) {
			t.Errorf("left after %d: %v; want %v", most, l, want[:n])
		}
	}
	if l := slices.Collect(all); !slices.Equal(l, want) {
		t.Errorf("again: %v; want %v", l, want)
	}
	for range all {
		if l := slices.Collect(all); !slices.Equal(l, want) {
			t.Errorf("within itself: %v; want %v", l, want)
		}
	}
}

// TestP7AllThen: it goes over the members that it was made of, as they were then.
func TestP7AllThen(t *testing.T) {
	m := newMembers(t, []int{0, 4}, nil)
	all := quorum.All(m, quorum.Voter)
	m[4], m[5] = quorum.None, quorum.Voter
	if l := slices.Collect(all); !slices.Equal(l, []int{0, 4}) {
		t.Errorf("All: %v; want those of then", l)
	}
	wantAll(t, m, quorum.Voter, 0, 5)
	var l []int
	for k := range quorum.All(m, quorum.Voter) {
		m[5], m[6] = quorum.None, quorum.Voter
		l = append(l, k)
	}
	if !slices.Equal(l, []int{0, 5}) {
		t.Errorf("All: %v; want those of then", l)
	}
}

// TestP1NotRight: of members that are not right each call ends, and none panics.
func TestP1NotRight(t *testing.T) {
	for _, m := range someWrong() {
		quorum.Most(m)
		for n := range 1 << 10 {
			quorum.Votes(m, bits(n, n%12))
		}
		for _, role := range append(extremes, 0, 1, 2, 3) {
			quorum.Count(m, role)
			for range quorum.All(m, role) {
			}
			for _, k := range append(extremes, 0, 1, 4, 8) {
				quorum.Change(m, k, role)
				quorum.Index(m, []int{k, role, 4})
			}
		}
		quorum.Index(m, nil)
		quorum.Index(m, slices.Repeat([]int{7}, 12))
		if b := quorum.Encode(m); len(b) != nodes {
			t.Errorf("Encode(%v): %v", m, b)
		}
	}
}
