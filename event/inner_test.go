package event

import (
	"testing"

	"teasel/api"
)

// TestKinds: those of iota are api's.
func TestKinds(t *testing.T) {
	for kind, want := range map[int]int{
		started:    api.EStarted,
		scheduled:  api.EScheduled,
		decides:    api.EDecides,
		decided:    api.EDecided,
		missed:     api.EMissed,
		faulty:     api.EFaulty,
		activity:   api.EActivity,
		works:      api.EWorks,
		worked:     api.EWorked,
		broke:      api.EBroke,
		lapsed:     api.ELapsed,
		timer:      api.ETimer,
		fired:      api.EFired,
		unset:      api.EUnset,
		signal:     api.ESignal,
		cancel:     api.ECancel,
		child:      api.EChild,
		childEnds:  api.EChildEnds,
		continued:  api.EContinued,
		completed:  api.ECompleted,
		failed:     api.EFailed,
		canceled:   api.ECanceled,
		terminated: api.ETerminated,
	} {
		if kind != want {
			t.Errorf("%s: %d; want %d", Name(want), kind, want)
		}
	}
}
