package event_test

import (
	"testing"

	"teasel/api"
	"teasel/event"
)

// kindNames are the words of P1201, each beside its kind.
func kindNames() map[int]string {
	return map[int]string{
		api.EStarted: "started", api.EScheduled: "scheduled", api.EDecides: "decides", api.EDecided: "decided",
		api.EMissed: "missed", api.EFaulty: "faulty", api.EActivity: "activity", api.EWorks: "works",
		api.EWorked: "worked", api.EBroke: "broke", api.ELapsed: "lapsed", api.ETimer: "timer",
		api.EFired: "fired", api.EUnset: "unset", api.ESignal: "signal", api.ECancel: "cancel",
		api.EChild: "child", api.EChildEnds: "childends", api.EContinued: "continued", api.ECompleted: "completed",
		api.EFailed: "failed", api.ECanceled: "canceled", api.ETerminated: "terminated",
	}
}

func TestP1201Name(t *testing.T) {
	for kind := -3; kind < lastKind+300; kind++ {
		if name := event.Name(kind); name != kindNames()[kind] {
			t.Errorf("Name(%d): %q; want %q", kind, name, kindNames()[kind])
		}
	}
	for _, kind := range notKinds() {
		if name := event.Name(kind); name != "" {
			t.Errorf("Name(%d): %q; want none", kind, name)
		}
	}
}

func TestP1201Closes(t *testing.T) {
	for kind := -3; kind < lastKind+300; kind++ {
		if is := event.Closes(kind); is != (kind >= 19 && kind <= 23) {
			t.Errorf("Closes(%d): %v", kind, is)
		}
	}
	for _, kind := range notKinds() {
		if event.Closes(kind) {
			t.Errorf("Closes(%d): true", kind)
		}
	}
}

func wantRight(t *testing.T, e api.Event, want bool) {
	t.Helper()
	if is := event.Right(e); is != want {
		e.Data = e.Data[:min(3, len(e.Data))]
		t.Errorf("Right(%+v ..): %v; want %v", e, is, want)
	}
}

func TestP1201RightKind(t *testing.T) {
	for kind := 1; kind <= lastKind; kind++ {
		wantRight(t, api.Event{Kind: kind}, true)
		wantRight(t, api.Event{Kind: kind, At: most, Ref: most, Id: most, List: most, N: most, Data: make([]byte, api.MaxData)}, true)
	}
	for _, kind := range notKinds() {
		wantRight(t, api.Event{Kind: kind}, false)
	}
	wantRight(t, api.Event{}, false)
}

// each hands on an event in which one of the numbers beside Kind is v and the others are other, five times.
func each(v, other int, f func(e api.Event)) {
	base := api.Event{Kind: api.ESignal, At: other, Ref: other, Id: other, List: other, N: other}
	for field := range 5 {
		e := base
		*[]*int{&e.At, &e.Ref, &e.Id, &e.List, &e.N}[field] = v
		f(e)
	}
}

func TestP1201RightNumbers(t *testing.T) {
	for _, other := range []int{0, 1, most} {
		for _, v := range []int{0, 1, 1 << 20, 1<<32 + 1, most - 1, most} {
			each(v, other, func(e api.Event) { wantRight(t, e, true) })
		}
		for _, v := range farOff() {
			each(v, other, func(e api.Event) { wantRight(t, e, false) })
		}
	}
}

func TestP1201RightData(t *testing.T) {
	long := make([]byte, 1<<16+1)
	for _, n := range []int{0, 1, api.MaxData - 1, api.MaxData} {
		wantRight(t, api.Event{Kind: api.ESignal, Data: long[:n]}, true)
	}
	for _, n := range []int{api.MaxData + 1, 2 * api.MaxData, 1 << 16, 1<<16 + 1} {
		wantRight(t, api.Event{Kind: api.ESignal, Data: long[:n]}, false)
	}
}
