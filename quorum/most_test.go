package quorum_test

import (
	"math"
	"slices"
	"testing"

	"teasel/draws"
	"teasel/quorum"
)

func TestP802Most(t *testing.T) {
	for voters, want := range []int{1: 1, 2: 2, 3: 2, 4: 3, 5: 3, 6: 4, 7: 4, 8: 5, 9: 5} {
		if voters == 0 {
			continue
		}
		l := []int{8, 3, 1, 0, 2, 7, 5, 4, 6}
		if n := quorum.Most(newMembers(t, l[:voters], l[voters:])); n != want {
			t.Errorf("Most of %d voters and learners: %d; want %d", voters, n, want)
		}
		if n := quorum.Most(newMembers(t, l[:voters], nil)); n != want {
			t.Errorf("Most of %d voters: %d; want %d", voters, n, want)
		}
	}
}

func TestP802Votes(t *testing.T) {
	three := newMembers(t, []int{0, 2, 5}, []int{1, 8})
	y, n := true, false
	wantVotes(t, three, nil, false, false)
	wantVotes(t, three, []bool{y}, false, false)
	wantVotes(t, three, []bool{y, y}, false, false) // 1 learns
	wantVotes(t, three, []bool{y, n, y}, true, false)
	wantVotes(t, three, []bool{n, y, y}, false, false)
	wantVotes(t, three, []bool{n, y, y, y, y}, false, false)
	wantVotes(t, three, []bool{n, y, y, y, y, n}, false, true)
	wantVotes(t, three, []bool{n, y, y, y, y, y}, true, false)
	wantVotes(t, three, []bool{n, y, n}, false, true)
	wantVotes(t, three, []bool{y, n, y, n, n, n, n, n, n}, true, false)
	wantVotes(t, three, []bool{n, y, n, y, y, n, y, y, y, y, y, y}, false, true)

	two := newMembers(t, []int{7, 8}, []int{0})
	wantVotes(t, two, []bool{y, y, y, y, y, y, y}, false, false)
	wantVotes(t, two, []bool{7: y}, false, false)
	wantVotes(t, two, []bool{7: n}, false, true) // 8 alone is not most of two
	wantVotes(t, two, []bool{7: y, 8: n}, false, true)
	wantVotes(t, two, []bool{7: y, 8: y}, true, false)

	one := newMembers(t, []int{3}, nil)
	wantVotes(t, one, []bool{y, y, y}, false, false)
	wantVotes(t, one, []bool{n, n, n, y}, true, false)
	wantVotes(t, one, []bool{y, y, y, n, y}, false, true)
}

// slowVotes asks all that voters beyond the list may say yet.
func slowVotes(voters []int, yes []bool) (won, lost bool) {
	said, with := 0, 0
	for _, k := range voters {
		if k < len(yes) && yes[k] {
			said++
		}
		if k >= len(yes) || yes[k] {
			with++
		}
	}
	return 2*said > len(voters), 2*with <= len(voters)
}

// TestP802VotesEach: of all voters, and all lists of up to eleven answers; who does not vote learns, every other one.
func TestP802VotesEach(t *testing.T) {
	for set := 1; set < 1<<nodes; set++ {
		var m quorum.Members
		for k := range m {
			m[k] = []byte{quorum.None, quorum.Learner}[k%2]
			if set>>k&1 == 1 {
				m[k] = quorum.Voter
			}
		}
		voters := having(m, quorum.Voter)
		for length := range 12 {
			for n := range 1 << length {
				yes := bits(n, length)
				won, lost := slowVotes(voters, yes)
				wantVotes(t, m, yes, won, lost)
			}
		}
	}
}

func TestP802Index(t *testing.T) {
	three := newMembers(t, []int{0, 2, 5}, []int{1, 8})
	wantIndex(t, three, nil, 0)
	wantIndex(t, three, []int{7}, 0)
	wantIndex(t, three, []int{7, 9, 4}, 4)
	wantIndex(t, three, []int{4, 9, 7}, 4)
	wantIndex(t, three, []int{7, 9, 4, 9, 9, 5, 9, 9, 9, 9, 9}, 5)
	wantIndex(t, three, []int{0, 9, 4, 9, 9, 5}, 4)
	wantIndex(t, three, []int{5, 9, 5, 9, 9, 5}, 5)
	wantIndex(t, three, []int{5, 9, 0, 9, 9, 5}, 5)
	wantIndex(t, three, []int{5, 9, 0, 9, 9, 0}, 0)

	two := newMembers(t, []int{7, 8}, []int{0})
	wantIndex(t, two, []int{9, 9, 9, 9, 9, 9, 9, 9}, 0)
	wantIndex(t, two, []int{7: 3, 8: 2}, 2)
	wantIndex(t, two, []int{7: 2, 8: 3}, 2)

	one := newMembers(t, []int{3}, []int{4})
	wantIndex(t, one, []int{9, 9, 9}, 0)
	wantIndex(t, one, []int{9, 9, 9, 1, 9}, 1)
	wantIndex(t, one, []int{9, 9, 9, math.MaxInt, 9}, math.MaxInt)
}

func TestP802IndexBelow(t *testing.T) {
	least, greatest := math.MinInt, math.MaxInt
	three := newMembers(t, []int{0, 1, 2}, nil)
	wantIndex(t, three, []int{-1, -1, -1}, 0)
	wantIndex(t, three, []int{-3, 0, -3}, 0)
	wantIndex(t, three, []int{least, least, least}, 0)
	wantIndex(t, three, []int{least, 1, least}, 0)
	wantIndex(t, three, []int{least, 1, 1}, 1)
	wantIndex(t, three, []int{least, greatest, 1}, 1)
	wantIndex(t, three, []int{least, greatest, greatest}, greatest)
	wantIndex(t, three, []int{greatest, greatest - 1, -1}, greatest-1)
	wantIndex(t, newMembers(t, []int{0}, nil), []int{least}, 0)
	wantIndex(t, newMembers(t, []int{1}, nil), []int{least}, 0)
}

// slowIndex puts all voters' numbers in a row.
func slowIndex(voters, match []int) int {
	var l []int
	for _, k := range voters {
		n := 0
		if k < len(match) && match[k] > 0 {
			n = match[k]
		}
		l = append(l, n)
	}
	slices.Sort(l)
	return l[(len(l)-1)/2]
}

// TestP802IndexDrawn: of all members, with drawn numbers, of which many are alike.
func TestP802IndexDrawn(t *testing.T) {
	s := draws.New(802)
	for m := range allRight() {
		for _, most := range []int{2, 5, 100, 1 << 62} {
			match := make([]int, s.Between(0, 12))
			for k := range match {
				match[k] = s.Below(most) - s.Below(2)*s.Below(most)
			}
			wantIndex(t, m, match, slowIndex(having(m, quorum.Voter), match))
		}
	}
}
