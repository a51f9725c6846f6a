package event_test

import (
	"slices"
	"testing"

	"teasel/api"
	"teasel/event"
)

func TestP1202Fits(t *testing.T) {
	l := full()
	for n := range len(l) + 1 {
		wantFits(t, l[:n]...)
	}
	kinds := map[int]int{}
	for _, e := range l {
		kinds[e.Kind]++
	}
	for kind := 1; kind < api.EContinued; kind++ {
		if kinds[kind] == 0 {
			t.Errorf("full has no %s", event.Name(kind))
		}
	}
	for kind := api.EContinued; kind <= lastKind; kind++ {
		wantFits(t, till(api.Event{Kind: kind, At: 10})...)
		wantFits(t, till(api.Event{Kind: kind, At: most, Id: most, List: most, N: most, Data: make([]byte, api.MaxData)})...)
		wantFits(t, api.Event{Kind: api.EStarted}, api.Event{Kind: kind})
	}
}

// TestP1202Earliest: the first event that does not fit is told, whatever stands behind it.
func TestP1202Earliest(t *testing.T) {
	bad := api.Event{Kind: api.ESignal, Ref: 1, At: most}
	for n := 1; n <= len(full()); n++ {
		l := slices.Insert(full(), n, bad)
		wantBroken(t, n+1, "ref", l...)
		wantBroken(t, n+1, "ref", l[:n+1]...)
		wantBroken(t, n+1, "ref", slices.Insert(l, n+1, api.Event{}, bad)...)
	}
	wantBroken(t, 1, "event", api.Event{}, bad, api.Event{})
}

func TestP1202Event(t *testing.T) {
	for _, kind := range notKinds() {
		wantWhy(t, full(), api.Event{Kind: kind, At: 10}, "event")
		wantWhy(t, nil, api.Event{Kind: kind}, "event")
	}
	for _, v := range farOff() {
		each(v, 0, func(e api.Event) { wantWhy(t, full(), e, "event") })
	}
	wantWhy(t, full(), api.Event{Kind: api.ESignal, At: 10, Data: make([]byte, api.MaxData+1)}, "event")
	wantWhy(t, full(), api.Event{Kind: api.ESignal, At: 10, Data: make([]byte, api.MaxData)}, "")
	wantWhy(t, nil, api.Event{Kind: api.EStarted, Data: make([]byte, api.MaxData+1)}, "event")
	wantWhy(t, nil, api.Event{Kind: api.EStarted, At: -1}, "event")
}

func TestP1202Time(t *testing.T) {
	for _, at := range []int{0, 1, 8, 9} {
		wantWhy(t, full(), api.Event{Kind: api.ESignal, At: at}, "time")
	}
	for _, at := range []int{10, 11, most} {
		wantWhy(t, full(), api.Event{Kind: api.ESignal, At: at}, "")
	}
	l := []api.Event{{Kind: api.EStarted, At: most}}
	wantFits(t, l...)
	wantWhy(t, l, api.Event{Kind: api.ESignal, At: most}, "")
	wantWhy(t, l, api.Event{Kind: api.ESignal, At: most - 1}, "time")
	// held against the one right ahead, not against the first one
	wantWhy(t, []api.Event{{Kind: api.EStarted}, {Kind: api.ESignal, At: 5}}, api.Event{Kind: api.ESignal, At: 4}, "time")
}

func TestP1202First(t *testing.T) {
	for kind := 1; kind <= lastKind; kind++ {
		why := "first"
		if kind == api.EStarted {
			why = ""
		}
		wantWhy(t, nil, api.Event{Kind: kind, At: 3}, why)
	}
	for n := 1; n <= len(full()); n++ {
		wantWhy(t, full()[:n], api.Event{Kind: api.EStarted, At: 10}, "first")
	}
}

func TestP1202Closed(t *testing.T) {
	for closes := api.EContinued; closes <= lastKind; closes++ {
		l := till(api.Event{Kind: closes, At: 11})
		for kind := 2; kind <= lastKind; kind++ {
			wantWhy(t, l, api.Event{Kind: kind, At: 11}, "closed")
		}
	}
}

// ref is an event that has nothing but a Ref, at full's end.
func ref(kind, place int) api.Event { return api.Event{Kind: kind, At: 10, Ref: place} }

// wantRefs asks for each Ref, of which the fitting ones are given.
func wantRefs(t *testing.T, l []api.Event, kind int, fit ...int) {
	t.Helper()
	for place := range len(l) + 4 {
		why := "ref"
		if slices.Contains(fit, place) {
			why = ""
		}
		wantWhy(t, l, ref(kind, place), why)
	}
	for _, place := range []int{most, most - 1, 1<<32 + 1} {
		wantWhy(t, l, ref(kind, place), "ref")
	}
}

func TestP1202Ref(t *testing.T) {
	for _, kind := range []int{api.EScheduled, api.EActivity, api.ETimer, api.ESignal, api.ECancel, api.EChild,
		api.EContinued, api.ECompleted, api.EFailed, api.ECanceled, api.ETerminated} {
		wantRefs(t, full(), kind, 0)
	}
	for _, kind := range []int{api.EDecides, api.EDecided, api.EMissed, api.EFaulty} {
		wantRefs(t, full(), kind)
	}
	wantRefs(t, full(), api.EWorks, 30)
	for _, kind := range []int{api.EWorked, api.EBroke, api.ELapsed} {
		wantRefs(t, full(), kind, 33)
	}
	for _, kind := range []int{api.EFired, api.EUnset} {
		wantRefs(t, full(), kind, 34)
	}
	wantRefs(t, full(), api.EChildEnds, 35)
	wantWhy(t, nil, api.Event{Kind: api.EStarted, Ref: 1}, "ref")
}

// TestP1202RefTask: EScheduled, then EDecides, then one of three, once each.
func TestP1202RefTask(t *testing.T) {
	ends := []int{api.EDecided, api.EMissed, api.EFaulty}
	for _, end := range ends {
		l := till(ref(api.EScheduled, 0))
		wantRefs(t, l, api.EDecides, 36)
		for _, kind := range ends {
			wantRefs(t, l, kind)
		}
		l = append(l, ref(api.ESignal, 0), ref(api.EDecides, 36), ref(api.ESignal, 0))
		wantRefs(t, l, api.EDecides)
		for _, kind := range ends {
			wantRefs(t, l, kind, 38)
		}
		l = append(l, ref(end, 38))
		wantRefs(t, l, api.EDecides)
		for _, kind := range ends {
			wantRefs(t, l, kind)
		}
		l = append(l, ref(api.EScheduled, 0))
		wantRefs(t, l, api.EDecides, 41)
	}
}

// TestP1202RefWork: several activities are open at a time, each begun once and ended once.
func TestP1202RefWork(t *testing.T) {
	ends := []int{api.EWorked, api.EBroke, api.ELapsed}
	for _, end := range ends {
		l := till(ref(api.EActivity, 0))
		wantRefs(t, l, api.EWorks, 30, 36)
		l = append(l, ref(api.EWorks, 36))
		wantRefs(t, l, api.EWorks, 30)
		for _, kind := range ends {
			wantRefs(t, l, kind, 33, 37)
		}
		l = append(l, ref(end, 37))
		wantRefs(t, l, api.EWorks, 30)
		for _, kind := range ends {
			wantRefs(t, l, kind, 33)
		}
		l = append(l, ref(end, 33), ref(api.EWorks, 30))
		wantRefs(t, l, api.EWorks)
		wantRefs(t, l, end, 40)
	}
}

func TestP1202RefTimerAndChild(t *testing.T) {
	for end, kind := range map[int]int{api.EFired: api.ETimer, api.EUnset: api.ETimer, api.EChildEnds: api.EChild} {
		was := slices.IndexFunc(full()[33:], func(e api.Event) bool { return e.Kind == kind }) + 34
		l := till(ref(kind, 0))
		wantRefs(t, l, end, was, 36)
		l = append(l, ref(end, was))
		wantRefs(t, l, end, 36)
		l = append(l, ref(end, 36))
		wantRefs(t, l, end)
	}
}

// TestP1202RefId: whose Id an event has that belongs to another one is not asked.
func TestP1202RefId(t *testing.T) {
	for kind, place := range map[int]int{api.EWorks: 30, api.EWorked: 33, api.EBroke: 33, api.ELapsed: 33, api.EFired: 34, api.EUnset: 34, api.EChildEnds: 35} {
		for _, id := range []int{0, 2, 6, 8, most} {
			e := ref(kind, place)
			e.Id = id
			wantWhy(t, full(), e, "")
		}
	}
	e := ref(api.EWorks, 30)
	e.Id = 5
	wantOpen(t, till(e), []int{6, 8}, []int{8}, []int{2})
	wantWhy(t, till(e), api.Event{Kind: api.EActivity, At: 10, Id: 5}, "")
	wantWhy(t, till(e), api.Event{Kind: api.EActivity, At: 10, Id: 6}, "id")
}

// TestP1202Task: one at a time, whatever its Id.
func TestP1202Task(t *testing.T) {
	for _, id := range []int{0, 1, most} {
		one := api.Event{Kind: api.EScheduled, At: 10, Id: id}
		for _, end := range []int{api.EDecided, api.EMissed, api.EFaulty} {
			l := till(one)
			for _, e := range []api.Event{ref(api.ESignal, 0), ref(api.EDecides, 36), ref(api.ECancel, 0)} {
				wantWhy(t, l, ref(api.EScheduled, 0), "task")
				wantWhy(t, l, api.Event{Kind: api.EScheduled, At: 10, Id: 3, List: 3, N: 3}, "task")
				l = append(l, e)
			}
			wantWhy(t, l, ref(api.EScheduled, 0), "task")
			wantWhy(t, append(l, ref(end, 38)), ref(api.EScheduled, 0), "")
			wantWhy(t, append(l, ref(end, 38)), one, "")
		}
	}
}

func TestP1202Id(t *testing.T) {
	used := map[int][]int{api.EActivity: {6, 8}, api.ETimer: {8}, api.EChild: {2}}
	for kind, l := range used {
		for id := range 12 {
			why := ""
			if slices.Contains(l, id) {
				why = "id"
			}
			wantWhy(t, full(), api.Event{Kind: kind, At: 10, Id: id}, why)
		}
		for _, id := range []int{0, most} {
			e := api.Event{Kind: kind, At: 10, Id: id}
			wantWhy(t, till(e), e, "id")
		}
	}
	for _, end := range []int{api.EWorked, api.EBroke, api.ELapsed} {
		wantWhy(t, till(ref(end, 33)), api.Event{Kind: api.EActivity, At: 10, Id: 8}, "")
		wantWhy(t, till(ref(end, 33)), api.Event{Kind: api.EActivity, At: 10, Id: 6}, "id")
		wantWhy(t, till(ref(api.EWorks, 30), ref(end, 36)), api.Event{Kind: api.EActivity, At: 10, Id: 6}, "")
	}
	for _, end := range []int{api.EFired, api.EUnset} {
		wantWhy(t, till(ref(end, 34)), api.Event{Kind: api.ETimer, At: 10, Id: 8}, "")
	}
	wantWhy(t, till(ref(api.EChildEnds, 35)), api.Event{Kind: api.EChild, At: 10, Id: 2}, "")
}

// TestP1202Order: where several apply, the first one of the table is told.
func TestP1202Order(t *testing.T) {
	pending := till(ref(api.EScheduled, 0))
	closed := append(slices.Clone(pending), api.Event{Kind: api.EFailed, At: 10})
	for _, x := range []struct {
		l   []api.Event
		e   api.Event
		why string
	}{
		{closed, api.Event{Kind: api.EStarted, Ref: 1, N: -1}, "event"},
		{closed, api.Event{Kind: lastKind + 1, Ref: 1}, "event"},
		{nil, api.Event{Kind: api.ESignal, Ref: -1}, "event"},
		{closed, api.Event{Kind: api.EStarted, At: 9, Ref: 1}, "time"},
		{closed, api.Event{Kind: api.EScheduled, At: 9, Ref: 1}, "time"},
		{full(), api.Event{Kind: api.EActivity, At: 9, Id: 8}, "time"},
		{closed, api.Event{Kind: api.EStarted, At: 10, Ref: 1}, "first"},
		{nil, api.Event{Kind: api.EDecides, Ref: 7}, "first"},
		{nil, api.Event{Kind: api.ESignal, Ref: 7}, "first"},
		{closed, api.Event{Kind: api.EScheduled, At: 10, Ref: 1}, "closed"},
		{closed, api.Event{Kind: api.EScheduled, At: 10}, "closed"},
		{closed, api.Event{Kind: api.EDecides, At: 10, Ref: 35}, "closed"},
		{closed, api.Event{Kind: api.EActivity, At: 10, Id: 8}, "closed"},
		{pending, api.Event{Kind: api.EScheduled, At: 10, Ref: 1}, "ref"},
		{pending, api.Event{Kind: api.EScheduled, At: 10, Ref: 36}, "ref"},
		{pending, api.Event{Kind: api.EActivity, At: 10, Ref: 30, Id: 8}, "ref"},
		{pending, api.Event{Kind: api.ETimer, At: 10, Ref: 34, Id: 8}, "ref"},
		{pending, api.Event{Kind: api.EChild, At: 10, Ref: 35, Id: 2}, "ref"},
	} {
		wantWhy(t, x.l, x.e, x.why)
	}
}

func TestP1202Status(t *testing.T) {
	statuses := map[int]int{
		api.EContinued: api.SContinued, api.ECompleted: api.SCompleted, api.EFailed: api.SFailed,
		api.ECanceled: api.SCanceled, api.ETerminated: api.STerminated,
	}
	wantStatus := func(want int, l ...api.Event) {
		t.Helper()
		if s := event.Status(l...); s != want {
			t.Errorf("Status of %d events: %d; want %d", len(l), s, want)
		}
	}
	wantStatus(api.SNone)
	wantStatus(api.SNone, []api.Event{}...)
	for n := 1; n <= len(full()); n++ {
		wantStatus(api.SOpen, full()[:n]...)
	}
	for kind := 1; kind <= lastKind; kind++ {
		want := api.SOpen
		if s, is := statuses[kind]; is {
			want = s
		}
		wantStatus(want, api.Event{Kind: kind})
		wantStatus(want, till(api.Event{Kind: kind, At: 10})...)
		wantStatus(want, api.Event{Kind: api.EStarted}, api.Event{Kind: kind})
	}
}

func TestP1202Open(t *testing.T) {
	wantOpen(t, nil, nil, nil, nil)
	l := full()
	for _, x := range []struct {
		n                            int
		activities, timers, children []int
	}{
		{4, nil, nil, nil}, {5, []int{7}, nil, nil}, {6, []int{7}, []int{7}, nil}, {7, []int{7}, []int{7}, []int{7}},
		{9, []int{7, 8}, []int{7, 8}, []int{7}}, {13, []int{7, 8}, []int{7, 8}, []int{7}}, {14, []int{7, 8}, []int{8}, []int{7}},
		{16, []int{8}, []int{8}, []int{7}}, {20, nil, []int{8}, []int{7}}, {24, nil, []int{8}, nil}, {27, nil, nil, nil},
		{30, []int{6, 7, 8}, nil, nil}, {32, []int{6, 8}, nil, nil}, {35, []int{6, 8}, []int{8}, []int{2}},
	} {
		wantOpen(t, l[:x.n], x.activities, x.timers, x.children)
	}
	for kind := api.EContinued; kind <= lastKind; kind++ {
		wantOpen(t, till(api.Event{Kind: kind, At: 10}), []int{6, 8}, []int{8}, []int{2})
	}
}

// TestP1202OpenRises: many, whose Ids come in whatever order; the same is told each time (P3).
func TestP1202OpenRises(t *testing.T) {
	l := []api.Event{{Kind: api.EStarted}}
	var a, b, c []int
	for i := range 300 {
		id := i * 211 % 300
		l = append(l, api.Event{Kind: api.EActivity, Id: id}, api.Event{Kind: api.ETimer, Id: most - id}, api.Event{Kind: api.EChild, Id: 2 * id})
		a, b, c = append(a, i), append(b, most-299+i), append(c, 2*i)
	}
	wantFits(t, l...)
	for range 3 {
		wantOpen(t, l, a, b, c)
	}
}

// TestP1202Long: a history of more events than a run may have; how many there are is none of Check's questions.
func TestP1202Long(t *testing.T) {
	l := []api.Event{{Kind: api.EStarted}}
	for id := range 100000 {
		l = append(l, api.Event{Kind: api.ETimer, At: id, Id: id}, api.Event{Kind: api.EActivity, At: id, Id: id})
	}
	wantFits(t, l...)
	wantFits(t, l[:api.MaxEvents+1]...)
	at := l[len(l)-1].At
	wantWhy(t, l, api.Event{Kind: api.ETimer, At: at, Id: 50000}, "id")
	for id := range 100000 {
		l = append(l, api.Event{Kind: api.EUnset, At: at, Ref: 2 + 2*id}, api.Event{Kind: api.EWorks, At: at, Ref: 3 + 2*id})
	}
	wantFits(t, l...)
	a, b, c := event.Open(l...)
	if len(a) != 100000 || a[777] != 777 || len(b) != 0 || len(c) != 0 {
		t.Errorf("Open: %d, %d, %d", len(a), len(b), len(c))
	}
	wantWhy(t, l, api.Event{Kind: api.EWorks, At: at, Ref: 3}, "ref")
}

// TestP1Wild: of whatever events, all calls end.
func TestP1Wild(t *testing.T) {
	var l []api.Event
	numbers := append(farOff(), 0, 1, 2, 3, most)
	for i, kind := range append(notKinds(), 1, 2, 3, 7, 7, 8, 8, 9, 9, 12, 13, 13, 17, 18, 19, 1, 2) {
		for k := range numbers {
			v, w := numbers[k], numbers[(i+k)%len(numbers)]
			l = append(l, api.Event{Kind: kind, At: v, Ref: w, Id: v, List: w, N: v, Data: make([]byte, i*300*(k/11))})
		}
	}
	for n := 0; n < len(l); n += 5 {
		event.Open(l[n:]...)
		event.Status(l[n:]...)
		event.Encode(l[n:]...)
		if err := event.Check(l[n:]...); err == nil {
			t.Errorf("Check of those from %d on: nil", n)
		}
	}
}
