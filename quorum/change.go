package quorum

import "teasel/api"

// Change gives one node another role. A new one learns ahead of voting, so that what it does not know yet is not counted on.
func Change(m Members, node, role int) (Members, api.Errno) {
	if !isNode(node) || !isRole(role) {
		return Members{}, api.ErrArg
	}
	next := m
	next[node] = byte(role)
	switch {
	case next == m:
		return Members{}, api.ErrUsed
	case !mayFollow(int(m[node]), role), Count(next, Voter) == 0:
		return Members{}, api.ErrNot
	}
	return next, api.OK
}

// mayFollow tells which role may come after which other one at once.
func mayFollow(was, role int) bool {
	switch was {
	case None:
		return role == Learner
	case Voter:
		return role == None
	}
	return true
}

// Encode lays members as a byte a node. What it cuts is the copy that it was handed, which nobody else has.
func Encode(m Members) []byte { return m[:] }

// Decode reads what Encode laid.
func Decode(b []byte) (Members, api.Errno) {
	if len(b) != len(Members{}) || !Right(Members(b)) {
		return Members{}, api.ErrForm
	}
	return Members(b), api.OK
}
