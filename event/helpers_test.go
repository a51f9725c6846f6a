package event_test

import (
	"errors"
	"math"
	"slices"
	"strconv"
	"testing"

	"teasel/api"
	"teasel/event"
)

const (
	most     = 1 << 40
	lastKind = api.ETerminated
)

// farOff are numbers that no field may have.
func farOff() []int {
	return []int{math.MinInt, math.MinInt + 1, -most, -1 << 32, -2, -1, most + 1, most + 2, 2 * most, 1<<62 + 1, math.MaxInt - 1, math.MaxInt}
}

// notKinds are no kinds, though some would be, if cut to fewer bits.
func notKinds() []int {
	return append(farOff(), 0, lastKind+1, lastKind+2, 1<<8+1, 1<<16+1, 1<<32+1, most)
}

// full is a history with an event of each kind that does not close, in which a timer, an activity that is begun, one that is not, and a child are open.
func full() []api.Event {
	return []api.Event{
		{Kind: api.EStarted, List: 3, N: 9, Data: []byte("in")}, // 1
		{Kind: api.EScheduled, List: 3},
		{Kind: api.EDecides, At: 1, Ref: 2},
		{Kind: api.EDecided, At: 2, Ref: 3},
		{Kind: api.EActivity, At: 2, Id: 7, List: 4, N: 5, Data: []byte("do")}, // 5
		{Kind: api.ETimer, At: 2, Id: 7, N: 3},
		{Kind: api.EChild, At: 2, Id: 7, List: 1, N: 2},
		{Kind: api.ETimer, At: 2, Id: 8, N: 30},
		{Kind: api.EActivity, At: 2, Id: 8, N: 5},
		{Kind: api.ESignal, At: 3, Data: []byte("hey")}, // 10
		{Kind: api.EScheduled, At: 3, List: 3},
		{Kind: api.EWorks, At: 4, Ref: 5, Id: 7},
		{Kind: api.EWorks, At: 4, Ref: 9, Id: 8},
		{Kind: api.EFired, At: 5, Ref: 6, Id: 7},
		{Kind: api.EDecides, At: 5, Ref: 11}, // 15
		{Kind: api.EWorked, At: 6, Ref: 12, Id: 7, Data: []byte("done")},
		{Kind: api.EMissed, At: 7, Ref: 15},
		{Kind: api.EScheduled, At: 7, List: 3, N: 1},
		{Kind: api.ECancel, At: 7},
		{Kind: api.EBroke, At: 8, Ref: 13, Id: 8}, // 20
		{Kind: api.EDecides, At: 8, Ref: 18},
		{Kind: api.EFaulty, At: 8, Ref: 21, N: 1},
		{Kind: api.EScheduled, At: 8, List: 3, N: 2},
		{Kind: api.EChildEnds, At: 9, Ref: 7, Id: 7, N: api.SCompleted},
		{Kind: api.EDecides, At: 9, Ref: 23}, // 25
		{Kind: api.EDecided, At: 9, Ref: 25},
		{Kind: api.EUnset, At: 9, Ref: 8, Id: 8},
		{Kind: api.EActivity, At: 9, Id: 7},
		{Kind: api.EActivity, At: 9, Id: 8},
		{Kind: api.EActivity, At: 9, Id: 6}, // 30
		{Kind: api.EWorks, At: 9, Ref: 28, Id: 7},
		{Kind: api.ELapsed, At: 10, Ref: 31, Id: 7},
		{Kind: api.EWorks, At: 10, Ref: 29, Id: 8},
		{Kind: api.ETimer, At: 10, Id: 8, N: 1},
		{Kind: api.EChild, At: 10, Id: 2, N: 1}, // 35
	}
}

// till is full with some more behind it.
func till(more ...api.Event) []api.Event { return append(full(), more...) }

// clones are events with Data of their own.
func clones(l []api.Event) []api.Event {
	l = slices.Clone(l)
	for i := range l {
		l[i].Data = slices.Clone(l[i].Data)
	}
	return l
}

func wantFits(t *testing.T, l ...api.Event) {
	t.Helper()
	if err := event.Check(l...); err != nil {
		t.Errorf("Check: %v", err)
	}
}

// wantBroken holds Check against the Broken that is promised, and asks for it in each way.
func wantBroken(t *testing.T, at int, why string, l ...api.Event) {
	t.Helper()
	err := event.Check(l...)
	var b *event.Broken
	if !errors.As(err, &b) {
		t.Errorf("Check: %v; want %s of %d, %+v", err, why, at, l[at-1])
		return
	}
	if b.At != at || b.Why != why || b.Err != error(api.ErrForm) || b.Unwrap() != b.Err || !errors.Is(err, api.ErrForm) {
		t.Errorf("Check: %v; want %s of %d, %+v", err, why, at, l[at-1])
	}
	if text := "event " + strconv.Itoa(at) + ": " + why; err.Error() != text {
		t.Errorf("Error: %q; want %q", err.Error(), text)
	}
}

// wantWhy asks whether an event can stand behind those, or why not.
func wantWhy(t *testing.T, l []api.Event, e api.Event, why string) {
	t.Helper()
	l = append(slices.Clip(l), e)
	if why == "" {
		wantFits(t, l...)
		return
	}
	wantBroken(t, len(l), why, l...)
}

func wantOpen(t *testing.T, l []api.Event, activities, timers, children []int) {
	t.Helper()
	a, b, c := event.Open(l...)
	if !slices.Equal(a, activities) || !slices.Equal(b, timers) || !slices.Equal(c, children) {
		t.Errorf("Open: %v, %v, %v; want %v, %v, %v", a, b, c, activities, timers, children)
	}
}
