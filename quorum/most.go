package quorum

// Most tells how many voters are more than half of them.
func Most(m Members) int { return Count(m, Voter)/2 + 1 }

// Votes tells whether those who said yes are enough, and whether they can't be any more. Who stands beyond the list has not said anything yet.
func Votes(m Members, yes []bool) (won, lost bool) {
	ayes, noes := 0, 0
	for k := range All(m, Voter) {
		switch {
		case k >= len(yes):
		case yes[k]:
			ayes++
		default:
			noes++
		}
	}
	most := Most(m)
	return ayes >= most, Count(m, Voter)-noes < most
}

// Index tells the greatest number that most voters have reached. It sets out from 0, where everybody stands at least, so that numbers below are as 0.
func Index(m Members, match []int) int {
	best := 0
	for k := range All(m, Voter) {
		if n := reached(match, k); n > best && haveReached(m, match, n) >= Most(m) {
			best = n
		}
	}
	return best
}

// haveReached tells how many voters stand at a number or beyond it.
func haveReached(m Members, match []int, n int) int {
	have := 0
	for k := range All(m, Voter) {
		if reached(match, k) >= n {
			have++
		}
	}
	return have
}

// reached tells where a node stands; one beyond the list has not come anywhere yet.
func reached(match []int, k int) int {
	if k < len(match) {
		return match[k]
	}
	return 0
}
