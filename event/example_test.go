package event_test

import (
	"errors"
	"fmt"

	"teasel/api"
	"teasel/event"
)

func ExampleCheck() {
	l := []api.Event{
		{Kind: api.EStarted, List: 1, N: 5},
		{Kind: api.EScheduled, List: 1},
		{Kind: api.EDecides, At: 1, Ref: 2},
		{Kind: api.EDecided, At: 2, Ref: 3},
		{Kind: api.ETimer, At: 2, Id: 7, N: 10},
	}
	fmt.Println(event.Check(l...), event.Status(l...) == api.SOpen)

	err := event.Check(append(l, api.Event{Kind: api.EFired, At: 12, Ref: 4})...)
	var broken *event.Broken
	fmt.Println(err, errors.Is(err, api.ErrForm), errors.As(err, &broken) && broken.At == 6)

	l = append(l, api.Event{Kind: api.EFired, At: 12, Ref: 5, Id: 7}, api.Event{Kind: api.EFailed, At: 13})
	fmt.Println(event.Check(l...), event.Status(l...) == api.SFailed)
	// Output:
	// <nil> true
	// event 6: ref true true
	// <nil> true
}

func ExampleOpen() {
	activities, timers, children := event.Open(
		api.Event{Kind: api.EStarted},
		api.Event{Kind: api.EActivity, Id: 9},
		api.Event{Kind: api.EActivity, Id: 4},
		api.Event{Kind: api.ETimer, Id: 4},
		api.Event{Kind: api.EUnset, Ref: 4, Id: 4},
	)
	fmt.Println(activities, timers, children)
	// Output: [4 9] [] []
}

func ExampleDecode() {
	l, err := event.Decode(event.Encode(api.Event{Kind: api.ESignal, At: 3, Data: []byte("go on")}))
	fmt.Println(event.Name(l[0].Kind), l[0].At, string(l[0].Data), err)
	_, err = event.Decode([]byte{2, 0})
	fmt.Println(err)
	// Output:
	// signal 3 go on <nil>
	// form in event at 1
}
