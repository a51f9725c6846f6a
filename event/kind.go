package event

import "teasel/api"

// Kinds, numbered as api's, in the order in which the names stand.
const (
	started = iota + api.EStarted
	scheduled
	decides
	decided
	missed
	faulty
	activity
	works
	worked
	broke
	lapsed
	timer
	fired
	unset
	signal
	cancel
	child
	childEnds
	continued
	completed
	failed
	canceled
	terminated
)

var names = [...]string{
	started:    "started",
	scheduled:  "scheduled",
	decides:    "decides",
	decided:    "decided",
	missed:     "missed",
	faulty:     "faulty",
	activity:   "activity",
	works:      "works",
	worked:     "worked",
	broke:      "broke",
	lapsed:     "lapsed",
	timer:      "timer",
	fired:      "fired",
	unset:      "unset",
	signal:     "signal",
	cancel:     "cancel",
	child:      "child",
	childEnds:  "childends",
	continued:  "continued",
	completed:  "completed",
	failed:     "failed",
	canceled:   "canceled",
	terminated: "terminated",
}

func isKind(kind int) bool { return kind >= started && kind <= terminated }

// Name tells a kind's word.
func Name(kind int) string {
	if !isKind(kind) {
		return ""
	}
	return names[kind]
}

// Closes tells whether a run ends with an event of that kind.
func Closes(kind int) bool { return kind >= continued && kind <= terminated }

// statusBehind tells the status of a run whose last event is of that kind.
func statusBehind(kind int) int {
	switch kind {
	case continued:
		return api.SContinued
	case completed:
		return api.SCompleted
	case failed:
		return api.SFailed
	case canceled:
		return api.SCanceled
	case terminated:
		return api.STerminated
	}
	return api.SOpen
}
