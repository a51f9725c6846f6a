package ids

import (
	"cmp"

	"teasel/api"
)

// How many bits each of a token's numbers has, and where these begin.
const (
	turnBits  = 12
	eventBits = 16
	runBits   = 16
	flowBits  = 20

	turnAt  = 0
	eventAt = turnAt + turnBits
	runAt   = eventAt + eventBits
	flowAt  = runAt + runBits
)

func Token(t api.Token) uint64 {
	v := pack(t)
	// A number that does not fit loses bits or spills into the next one: then another token comes back.
	if unpack(v) != t || isNone(v) {
		return 0
	}
	return v
}

func Of(v uint64) (api.Token, api.Errno) {
	if isNone(v) {
		return api.Token{}, api.ErrForm
	}
	return unpack(v), api.OK
}

func Less(a, b api.Token) bool {
	return cmp.Or(
		cmp.Compare(a.Flow, b.Flow),
		cmp.Compare(a.Run, b.Run),
		cmp.Compare(a.Event, b.Event),
		cmp.Compare(a.Turn, b.Turn),
	) < 0
}

// isNone tells whether v names no task: every task has a Flow or a Run, so that 0 stays free for none.
func isNone(v uint64) bool { return v>>runAt == 0 }

func pack(t api.Token) uint64 {
	return uint64(t.Flow)<<flowAt | uint64(t.Run)<<runAt | uint64(t.Event)<<eventAt | uint64(t.Turn)<<turnAt
}

func unpack(v uint64) api.Token {
	return api.Token{
		Flow:  field(v, flowAt, flowBits),
		Run:   field(v, runAt, runBits),
		Event: field(v, eventAt, eventBits),
		Turn:  field(v, turnAt, turnBits),
	}
}

func field(v uint64, at, bits int) int { return int(v >> at & (1<<bits - 1)) }
