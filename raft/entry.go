package raft

import (
	"teasel/api"
	"teasel/quorum"
)

// What the first byte of an entry's Data tells about the others. An entry that a new leader adds has none.
const (
	ofProposal = 0
	ofMembers  = 1
)

func proposal(data []byte) []byte { return append([]byte{ofProposal}, data...) }

func change(m quorum.Members) []byte { return append([]byte{ofMembers}, quorum.Encode(m)...) }

// Config tells the members that an entry's Data makes of a group.
func Config(data []byte) (quorum.Members, bool) {
	if len(data) == 0 || data[0] != ofMembers {
		return quorum.Members{}, false
	}
	m, e := quorum.Decode(data[1:])
	return m, e == api.OK
}

// plain tells what was proposed as an entry, of its Data.
func plain(data []byte) []byte {
	_, is := Config(data)
	switch {
	case is, len(data) == 0:
		return nil
	case data[0] == ofProposal:
		return data[1:]
	}
	return data
}

// front tells the members at the front of a snapshot's Data.
func front(data []byte) (quorum.Members, bool) {
	n := len(quorum.Members{})
	if len(data) < n {
		return quorum.Members{}, false
	}
	m, e := quorum.Decode(data[:n])
	return m, e == api.OK
}
