package quorum_test

import (
	"bytes"
	"slices"
	"testing"

	"teasel/api"
	"teasel/quorum"
)

func TestP803Change(t *testing.T) {
	m := newMembers(t, []int{0, 2, 5}, []int{8})
	wantChange(t, m, 1, quorum.Learner, newMembers(t, []int{0, 2, 5}, []int{1, 8}), api.OK)
	wantChange(t, m, 8, quorum.Voter, newMembers(t, []int{0, 2, 5, 8}, nil), api.OK)
	wantChange(t, m, 8, quorum.None, newMembers(t, []int{0, 2, 5}, nil), api.OK)
	wantChange(t, m, 0, quorum.None, newMembers(t, []int{2, 5}, []int{8}), api.OK)
	if want := newMembers(t, []int{0, 2, 5}, []int{8}); m != want {
		t.Errorf("Change changed what it was handed: %v", m)
	}
}

func TestP803ChangeNot(t *testing.T) {
	m := newMembers(t, []int{0, 2}, []int{8})
	none := quorum.Members{}
	wantChange(t, m, 1, quorum.Voter, none, api.ErrNot)
	wantChange(t, m, 0, quorum.Learner, none, api.ErrNot)
	wantChange(t, m, 1, quorum.None, none, api.ErrUsed)
	wantChange(t, m, 0, quorum.Voter, none, api.ErrUsed)
	wantChange(t, m, 8, quorum.Learner, none, api.ErrUsed)

	last := newMembers(t, []int{4}, []int{5, 6})
	wantChange(t, last, 4, quorum.None, none, api.ErrNot)
	wantChange(t, last, 4, quorum.Learner, none, api.ErrNot)
	wantChange(t, last, 4, quorum.Voter, none, api.ErrUsed)
	wantChange(t, last, 5, quorum.None, newMembers(t, []int{4}, []int{6}), api.OK)
	wantChange(t, last, 5, quorum.Voter, newMembers(t, []int{4, 5}, []int{6}), api.OK)
}

func TestP803ChangeArg(t *testing.T) {
	m := newMembers(t, []int{0, 1, 2}, []int{8})
	for _, wrong := range append(extremes, 3, 4, 127, 128, 129) {
		wantChange(t, m, 0, wrong, quorum.Members{}, api.ErrArg)
		wantChange(t, m, wrong, wrong, quorum.Members{}, api.ErrArg)
	}
	for _, wrong := range extremes {
		for _, role := range []int{quorum.None, quorum.Voter, quorum.Learner} {
			wantChange(t, m, wrong, role, quorum.Members{}, api.ErrArg)
		}
	}
}

// slowChange asks a table, by the role that is and the one that is to be.
func slowChange(m quorum.Members, node, role int) (quorum.Members, api.Errno) {
	e := [3][3]api.Errno{
		quorum.None:    {quorum.None: api.ErrUsed, quorum.Voter: api.ErrNot},
		quorum.Voter:   {quorum.Voter: api.ErrUsed, quorum.Learner: api.ErrNot},
		quorum.Learner: {quorum.Learner: api.ErrUsed},
	}[m[node]][role]
	if role == quorum.None && slices.Equal(having(m, quorum.Voter), []int{node}) {
		e = api.ErrNot
	}
	if e != api.OK {
		return quorum.Members{}, e
	}
	m[node] = byte(role)
	return m, api.OK
}

// TestP803ChangeEach: of all members, nodes and roles.
func TestP803ChangeEach(t *testing.T) {
	for m := range allRight() {
		for node := range nodes {
			for role := range 3 {
				want, e := slowChange(m, node, role)
				wantChange(t, m, node, role, want, e)
			}
		}
	}
}

// TestP803EncodeEach: of all members; their bytes are their roles.
func TestP803EncodeEach(t *testing.T) {
	for m := range allRoles() {
		b := quorum.Encode(m)
		if !slices.Equal(b, m[:]) {
			t.Errorf("Encode(%v): %v", m, b)
		}
		if len(having(m, quorum.Voter)) > 0 {
			wantDecode(t, b, m, api.OK)
		} else {
			wantDecode(t, b, quorum.Members{}, api.ErrForm)
		}
	}
}

func TestP803DecodeForm(t *testing.T) {
	for length := range 30 {
		if length != nodes {
			wantDecode(t, bytes.Repeat([]byte{quorum.Voter}, length), quorum.Members{}, api.ErrForm)
		}
	}
	wantDecode(t, nil, quorum.Members{}, api.ErrForm)
	for _, m := range someWrong() {
		wantDecode(t, m[:], quorum.Members{}, api.ErrForm)
	}
	for k := range nodes {
		for role := 3; role < 256; role++ {
			b := bytes.Repeat([]byte{quorum.Voter}, nodes)
			b[k] = byte(role)
			wantDecode(t, b, quorum.Members{}, api.ErrForm)
		}
	}
}

// wantShared asks that no votes win among some members while all the others win among some others.
func wantShared(t *testing.T, m, x quorum.Members) {
	t.Helper()
	for set := range 1 << nodes {
		won, _ := quorum.Votes(m, bits(set, nodes))
		if other, _ := quorum.Votes(x, bits(^set, nodes)); won && other {
			t.Fatalf("%v and %v: %b and the others both win", m, x, set)
		}
	}
}

// TestP804Shared: of all voters; learners don't count (P802), so that it is enough to ask for those who learn by what Change makes of them.
func TestP804Shared(t *testing.T) {
	for set := 1; set < 1<<nodes; set++ {
		var m quorum.Members
		for k := range m {
			m[k] = quorum.Learner
			if set>>k&1 == 1 {
				m[k] = quorum.Voter
			}
		}
		wantShared(t, m, m)
		for node := range nodes {
			for role := range 3 {
				if x, e := quorum.Change(m, node, role); e == api.OK {
					wantShared(t, m, x)
				}
			}
		}
	}
}
