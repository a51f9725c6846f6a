package flow_test

import (
	"bytes"
	"errors"
	"math"
	"slices"
	"testing"

	"teasel/api"
	"teasel/codec"
	"teasel/draws"
	"teasel/event"
	"teasel/flow"
)

// TestP1305ThereAndBack: behind each call of a run that sees each kind of event.
func TestP1305ThereAndBack(t *testing.T) {
	for _, c := range closings() {
		f := begin(t)
		for _, x := range []call{
			decides(2, 0, 5), decide(2, 0, 6, dActivity(1, 4, 3, "a"), dActivity(2, 5, 4, ""), dActivity(3, 5, 4, ""), dTimer(1, 7), dTimer(2, 8), dUnset(1), dChild(9, 6, 5, "c")),
			works(5, 7), works(6, 7), works(7, 7), worked(5, "w", true, 7), worked(6, "b", false, 8), decides(16, 0, 8),
			fire(flow.OLapse, 7, 0, 8), fire(flow.OTimer, 9, 0, 9), cancel(9), childEnds(9, 6, "d", 9),
		} {
			do(t, f, x)
			wantAlike(t, mustDecode(t, f.Encode()), f)
		}
		for _, l := range [][]api.Decision{{dFail("")}, {{}}} {
			at := lastTask(f)
			f.Decides(at, f.Events(at)[0].N, 9)
			f.Decide(at, f.Events(at)[0].N, l, 9)
			wantAlike(t, mustDecode(t, f.Encode()), f)
		}
		f = rich(t)
		for _, x := range c.l {
			do(t, f, x)
			wantAlike(t, mustDecode(t, f.Encode()), f)
			wantAlike(t, mustDecode(t, f.Encode()).Twin(), f)
		}
	}
}

func lastTask(f *flow.Flow) int {
	for place := f.Len(); ; place-- {
		if f.Events(place)[0].Kind == api.EScheduled {
			return place
		}
	}
}

// TestP1305Id: the number of the workflow is kept, too.
func TestP1305Id(t *testing.T) {
	for _, id := range []int{0, 1, api.MaxFlow} {
		f, _, _ := flow.New(id, api.MaxTicks, 1, 1, nil, 0)
		g := mustDecode(t, f.Encode())
		if g.Run() != api.MaxTicks {
			t.Errorf("Run: %d", g.Run())
		}
		do(t, g, decides(2, 0, 0))
		if _, e := decide(2, 0, 0, dChild(id, 0, 1, "")).on(g); e != api.ErrBad {
			t.Errorf("child %d: %v; want bad", id, e)
		}
		if bytes.Equal(f.Encode(), begin(t).Encode()) {
			t.Error("other flows, the same bytes")
		}
	}
}

// TestP1305Greatest: no history has more bytes than this one.
func TestP1305Greatest(t *testing.T) {
	data := long(api.MaxData)
	f, _, _ := flow.New(api.MaxFlow, api.MaxTicks, api.MaxFlow, api.MaxTicks, data, mostTick)
	for f.Len() < api.MaxEvents {
		if _, e := f.Signal(data, mostTick); e != api.OK {
			t.Fatal(e)
		}
	}
	b := f.Encode()
	g := mustDecode(t, b)
	if !bytes.Equal(g.Encode(), b) || !sameEvents(f.Events(1), g.Events(1)) {
		t.Error("it is not the same")
	}
	wantFault(t, append(b, 0))
	wantFault(t, b[:len(b)-1])
}

func TestP1305Ends(t *testing.T) {
	b := rich(t).Encode()
	for n := range b {
		if x := wantFault(t, b[:n]); x.Err != api.ErrShort {
			t.Errorf("%d bytes: %v", n, x)
		}
	}
	if x := wantFault(t, append(bytes.Clone(b), 0)); x.Err != api.ErrForm || x.At != len(b) || x.What != "end" {
		t.Errorf("one more: %v", x)
	}
	wantFault(t, append(bytes.Clone(b), b...))
	wantFault(t, nil)
}

func TestP1305Numbers(t *testing.T) {
	l := rich(t).Events(1)
	mustDecode(t, laid(0, 1, l...))
	mustDecode(t, laid(api.MaxFlow, api.MaxTicks, l...))
	for _, v := range append(farOff(), api.MaxFlow+1) {
		if x := wantFault(t, laid(v, 1, l...)); x.Err != api.ErrForm || x.At != 0 || x.What != "id" {
			t.Errorf("id %d: %v", v, x)
		}
	}
	for _, v := range append(farOff(), 0, api.MaxTicks+1) {
		if x := wantFault(t, laid(3, v, l...)); x.Err != api.ErrForm || x.At != 1 || x.What != "run" {
			t.Errorf("run %d: %v", v, x)
		}
	}
	wantFault(t, laid(3, 7))
	for _, n := range []int64{math.MinInt64, -1, 1 << 32, math.MaxInt64} {
		wantFault(t, codec.NewWriter().Int(3).Int(7).Int(n).Done())
	}
}

// TestP1305Within: what event says of its bytes, at the place in all of them.
func TestP1305Within(t *testing.T) {
	for _, l := range [][]byte{{}, {2}, {2, 2}, {0}, {1}, {4, 2, 0, 0, 0, 2, 2, 0}, append(event.Encode(rich(t).Events(1)...), 0)} {
		b := codec.NewWriter().Int(3).Int(7).Bytes(l).Done()
		_, err := event.Decode(l)
		var within *codec.Fault
		if errors.As(err, &within) {
			x := wantFault(t, b)
			if ahead := len(b) - len(l); x.Err != within.Err || x.What != within.What || x.At != within.At+ahead {
				t.Errorf("% x: %v; want %v", l, x, within)
			}
			continue
		}
		wantFault(t, b)
	}
}

// wantNone is of events that are Right, but no history: then the Fault is about all of them.
func wantNone(t *testing.T, l []api.Event, what string) {
	t.Helper()
	b := laid(3, 7, l...)
	if x := wantFault(t, b); x.Err != api.ErrForm || x.What != "events" || x.At != len(b)-len(event.Encode(l...)) {
		t.Errorf("%s: %v", what, x)
	}
}

// TestP1305Cut: histories that end within what one call makes.
func TestP1305Cut(t *testing.T) {
	f := rich(t)
	do(t, f, decide(17, 1, 9, dTimer(5, 1), dTimer(6, 1)), decides(24, 0, 9), decide(24, 0, 9, dComplete("x")))
	l := f.Events(1)
	for n := range len(l) + 1 {
		switch n {
		case 0, 1, 13, 16, 21, 22, 23:
			wantNone(t, l[:n], "cut")
		default: // as if fewer had been decided, or nothing
			wantNew(t, mustDecode(t, laid(3, 7, l[:n]...)), 1, l[:n]...)
		}
	}
}

// TestP1305NoHistory: such as event.Check may let pass, but no calls make.
func TestP1305NoHistory(t *testing.T) {
	base := func() []api.Event { return rich(t).Events(1) }
	decided := func(more ...api.Event) []api.Event {
		l := after(t, decides(2, 0, 5)).Events(1)
		l = append(l, api.Event{Kind: api.EDecided, At: 5, Ref: 3})
		for i := range more {
			more[i].At = max(more[i].At, 5)
		}
		return append(l, more...)
	}
	mustDecode(t, laid(3, 7, decided()...))
	begun := func(more ...api.Event) []api.Event {
		l := after(t, decides(2, 0, 5)).Events(1)
		for i := range more {
			more[i].At = 5
		}
		return append(l, more...)
	}
	timer := func(id int) api.Event { return api.Event{Kind: api.ETimer, Id: id, N: 1} }
	var many []api.Event
	for id := range api.MaxList + 1 {
		many = append(many, timer(id))
	}
	mustDecode(t, laid(3, 7, decided(many[1:]...)...))
	for what, l := range map[string][]api.Event{
		"nothing scheduled":         base()[:1],
		"no turn":                   append(base()[:1], api.Event{Kind: api.EScheduled, At: 5, List: 2, N: 1}),
		"another list":              append(base()[:1], api.Event{Kind: api.EScheduled, At: 5, List: 1}),
		"a signal first":            append(base()[:1], api.Event{Kind: api.ESignal, At: 5}),
		"no wake":                   decided(api.Event{Kind: api.ESignal}),
		"a wake of another turn":    decided(api.Event{Kind: api.ESignal}, api.Event{Kind: api.EScheduled, List: 2, N: 1}),
		"a wake at another tick":    decided(api.Event{Kind: api.ESignal}, api.Event{Kind: api.EScheduled, List: 2, At: 6}),
		"a wake of nothing":         decided(api.Event{Kind: api.EScheduled, List: 2}),
		"too many decisions":        decided(many...),
		"decisions at other ticks":  decided(timer(1), api.Event{Kind: api.ETimer, Id: 2, N: 1, At: 6}),
		"a timer of 0 ticks":        decided(api.Event{Kind: api.ETimer, Id: 1}),
		"a timer with Data":         decided(api.Event{Kind: api.ETimer, Id: 1, N: 1, Data: []byte("x")}),
		"an activity of 0 ticks":    decided(api.Event{Kind: api.EActivity}),
		"a great Id":                decided(timer(api.MaxFlow + 1)),
		"a great List":              decided(api.Event{Kind: api.EActivity, List: api.MaxFlow + 1, N: 1}),
		"a great N":                 decided(api.Event{Kind: api.EActivity, N: api.MaxTicks + 1}),
		"the workflow itself":       decided(api.Event{Kind: api.EChild, Id: 3, N: 1}),
		"a timer twice":             decided(timer(1), timer(1)),
		"canceled, not asked":       decided(api.Event{Kind: api.ECanceled}),
		"canceled with Data":        begun(api.Event{Kind: api.ECanceled, Data: []byte("x")}),
		"completed by nobody":       begun(api.Event{Kind: api.ECompleted}),
		"an activity by nobody":     begun(api.Event{Kind: api.EActivity, N: 1}),
		"unset by nobody":           append(decided(timer(1)), api.Event{Kind: api.ESignal, At: 5}, api.Event{Kind: api.EScheduled, At: 5, List: 2}, api.Event{Kind: api.EUnset, At: 5, Ref: 5, Id: 1}),
		"unset what is not":         decided(timer(1), api.Event{Kind: api.EUnset, Id: 2, Ref: 5}),
		"unset with another Ref":    decided(timer(1), api.Event{Kind: api.EUnset, Id: 1, Ref: 4}),
		"unset with N":              decided(timer(1), api.Event{Kind: api.EUnset, Id: 1, Ref: 5, N: 1}),
		"behind the end":            decided(api.Event{Kind: api.ECompleted}, api.Event{Kind: api.ESignal}),
		"decisions behind the end":  decided(api.Event{Kind: api.ECompleted}, timer(1)),
		"terminated by a decision":  decided(timer(1), api.Event{Kind: api.ETerminated}, api.Event{Kind: api.EScheduled, List: 2}),
		"faulty, nothing scheduled": begun(api.Event{Kind: api.EFaulty, Ref: 3, N: 1}),
		"faulty, nothing late":      begun(api.Event{Kind: api.EFaulty, Ref: 3, N: 2}, api.Event{Kind: api.EScheduled, List: 2, N: 1}),
		"faulty of no reason":       begun(api.Event{Kind: api.EFaulty, Ref: 3}, api.Event{Kind: api.EScheduled, List: 2, N: 1}),
		"faulty of another reason":  begun(api.Event{Kind: api.EFaulty, Ref: 3, N: 3}, api.Event{Kind: api.EScheduled, List: 2, N: 1}),
		"faulty, the turn stays":    begun(api.Event{Kind: api.EFaulty, Ref: 3, N: 1}, api.Event{Kind: api.EScheduled, List: 2}),
		"missed, the turn stays":    begun(api.Event{Kind: api.EMissed, Ref: 3}, api.Event{Kind: api.EScheduled, List: 2}),
		"missed, nothing scheduled": begun(api.Event{Kind: api.EMissed, Ref: 3}),
		"decided late":              begun(api.Event{Kind: api.ESignal}, api.Event{Kind: api.EDecided, Ref: 3}),
		"ended late":                begun(api.Event{Kind: api.ESignal}, api.Event{Kind: api.EDecided, Ref: 3}, api.Event{Kind: api.EFailed}),
		"asked twice":               begun(api.Event{Kind: api.ECancel}, api.Event{Kind: api.ECancel}),
		"begun twice":               begun(api.Event{Kind: api.EDecides, Ref: 2}),
		"decides with N":            append(base()[:2], api.Event{Kind: api.EDecides, At: 5, Ref: 2, N: 1}),
		"a signal with an Id":       append(base()[:2], api.Event{Kind: api.ESignal, At: 5, Id: 1}),
		"a child's status":          append(base(), api.Event{Kind: api.EChildEnds, At: 9, Ref: 11, Id: 9, N: 7}),
		"a child's Ref":             append(base(), api.Event{Kind: api.EChildEnds, At: 9, Ref: 7, Id: 9}),
		"no such child":             append(base(), api.Event{Kind: api.EChildEnds, At: 9, Ref: 11, Id: 8}),
		"works with another Id":     append(base(), api.Event{Kind: api.EWorks, At: 9, Ref: 6, Id: 1}),
		"works twice":               append(base(), api.Event{Kind: api.EWorks, At: 9, Ref: 5, Id: 1}),
		"worked, not begun":         append(base(), api.Event{Kind: api.EWorked, At: 9, Ref: 6, Id: 2}),
		"worked with another Ref":   append(base(), api.Event{Kind: api.EWorked, At: 9, Ref: 5, Id: 1}),
		"worked with another Id":    append(base(), api.Event{Kind: api.EWorked, At: 9, Ref: 12, Id: 2}),
		"lapsed with Data":          append(base(), api.Event{Kind: api.ELapsed, At: 9, Ref: 12, Id: 1, Data: []byte("x")}),
		"fired, not set":            append(base(), api.Event{Kind: api.EFired, At: 9, Ref: 8, Id: 2}),
		"time falls":                append(base(), api.Event{Kind: api.ESignal, At: 8}),
		"started twice":             append(base(), api.Event{Kind: api.EStarted, At: 9}),
	} {
		wantNone(t, l, what)
	}
}

// TestP1305Started: the first event is one that New may make.
func TestP1305Started(t *testing.T) {
	for _, change := range []func(e *api.Event){
		func(e *api.Event) { e.Kind = api.ESignal },
		func(e *api.Event) { e.List = api.MaxFlow + 1 },
		func(e *api.Event) { e.N = 0 },
		func(e *api.Event) { e.N = api.MaxTicks + 1 },
		func(e *api.Event) { e.Id = 1 },
		func(e *api.Event) { e.Ref = 1 },
		func(e *api.Event) { e.At = 6 },
	} {
		l := begin(t).Events(1)
		change(&l[0])
		wantNone(t, l, "started")
	}
}

// TestP1305TooMany: one event more than may be, and one that has no room for its wake.
func TestP1305TooMany(t *testing.T) {
	f, _ := stuffed(t, begin(t), api.MaxEvents, call{})
	l := f.Events(1)
	more := append(slices.Clone(l), api.Event{Kind: api.ESignal, At: 5})
	if x := wantFault(t, laid(3, 7, more...)); x.What != "count" {
		t.Errorf("%v", x)
	}
	l[api.MaxEvents-1] = api.Event{Kind: api.EDecides, At: 5, Ref: 2}
	mustDecode(t, laid(3, 7, l...))
	l[api.MaxEvents-2] = api.Event{Kind: api.EDecides, At: 5, Ref: 2}
	l[api.MaxEvents-1] = api.Event{Kind: api.EDecided, At: 5, Ref: api.MaxEvents - 1}
	mustDecode(t, laid(3, 7, l...))
	copy(l[api.MaxEvents-3:], []api.Event{{Kind: api.EDecides, At: 5, Ref: 2}, {Kind: api.EDecided, At: 5, Ref: api.MaxEvents - 2}, {Kind: api.ESignal, At: 5}})
	wantNone(t, l, "no room for a wake")
}

// drawnHistory is one that rows of calls made, at most so many.
func drawnHistory(t *testing.T, d *draws.Source, n int) []api.Event {
	f, s := beginSlow(t)
	for range n {
		c := drawnCall(d, s)
		c.data = c.data[:min(len(c.data), 3)]
		wantAsSlow(t, f, s, c)
	}
	return s.l
}

// change changes a history at one place, mostly so that no calls make it.
func change(d *draws.Source, l []api.Event) []api.Event {
	i, j := d.Below(len(l)), d.Below(len(l))
	switch d.Below(10) {
	case 0:
		return slices.Delete(l, i, i+1)
	case 1:
		return slices.Insert(l, i, l[j])
	case 2:
		l[i], l[j] = l[j], l[i]
	case 3:
		return l[:i]
	case 4:
		l[i].Kind = d.Between(1, 23)
	case 5:
		l[i].At += d.Between(-1, 1)
	case 6:
		l[i].Ref += d.Between(-1, 1)
	case 7:
		l[i].Id += d.Between(-1, 1)
	case 8:
		l[i].N += d.Between(-1, 1)
	default:
		l[i].List++
		l[i].Data = append(slices.Clip(l[i].Data), 0)[d.Below(2):]
	}
	return l
}

// isMade tells whether a slow run can be led to a history by calls: each call is guessed from the first event that it makes.
func isMade(l []api.Event) bool {
	if len(l) < 2 {
		return false
	}
	f, _, e := flow.New(3, 7, l[0].List, l[0].N, l[0].Data, l[0].At)
	if e != api.OK || !event.Prefix(f.Events(1), l) {
		return false
	}
	s := &slow{3, f.Events(1)}
	for len(s.l) < len(l) {
		n := len(s.l)
		s.on(guess(s, l[n:]))
		if len(s.l) == n || !event.Prefix(s.l, l) {
			return false
		}
	}
	return true
}

func guess(s *slow, l []api.Event) call {
	e := l[0]
	of := s.at(e.Ref)
	c := call{ref: of.Ref, turn: s.at(of.Ref).N, data: e.Data, now: e.At}
	switch e.Kind {
	case api.ESignal:
		c.name = "signal"
	case api.ECancel:
		c.name = "cancel"
	case api.ETerminated:
		c.name = "terminate"
	case api.EDecides:
		c.name, c.ref, c.turn = "decides", e.Ref, of.N
	case api.EFaulty:
		c.name, c.l = "decide", []api.Decision{{Kind: map[int]int{1: 0, 2: api.DComplete}[e.N]}}
	case api.EDecided:
		kinds := map[int]int{api.EActivity: 1, api.ETimer: 2, api.EUnset: 3, api.EChild: 4, api.ECompleted: 5, api.EFailed: 6, api.ECanceled: 7, api.EContinued: 8}
		c.name = "decide"
		for _, x := range l[1:] {
			if kinds[x.Kind] == 0 {
				break
			}
			c.l = append(c.l, api.Decision{Kind: kinds[x.Kind], Id: x.Id, List: x.List, N: x.N, Data: x.Data})
		}
	case api.EMissed:
		c.name, c.kind = "fire", flow.OLate
	case api.EWorks:
		c.name, c.ref = "works", e.Ref
	case api.EWorked, api.EBroke:
		c.name, c.good = "worked", e.Kind == api.EWorked
	case api.ELapsed:
		c.name, c.kind, c.turn = "fire", flow.OLapse, 0
	case api.EFired:
		c.name, c.kind, c.ref, c.turn = "fire", flow.OTimer, e.Ref, 0
	case api.EChildEnds:
		c.name, c.id, c.status = "childends", e.Id, e.N
	default:
		c.name = "cancel"
		c.now = -1
	}
	return c
}

// TestP1305AgainstSlow: of histories that were changed those are read that calls make, and no others.
func TestP1305AgainstSlow(t *testing.T) {
	read, not := 0, 0
	for seed := range uint64(60) {
		d := draws.New(seed)
		l := drawnHistory(t, d, 40)
		for range 200 {
			changed := change(d, slices.Clone(l))
			if d.Below(4) == 0 && len(changed) > 0 {
				changed = change(d, changed)
			}
			b := laid(3, 7, changed...)
			if !isMade(changed) {
				wantFault(t, b)
				not++
				continue
			}
			f := mustDecode(t, b)
			if !bytes.Equal(f.Encode(), b) || !sameEvents(f.Events(1), changed) {
				t.Fatalf("seed %d: %+v; want %+v", seed, f.Events(1), changed)
			}
			read++
		}
	}
	if read < 300 || not < 3000 {
		t.Errorf("%d were read, %d not", read, not)
	}
}

// TestP1305Any (P1): of any bytes Decode ends; what it reads is laid as those bytes.
func TestP1305Any(t *testing.T) {
	d := draws.New(1305)
	f := rich(t)
	do(t, f, decide(17, 1, 9, dTimer(5, 1)))
	start, read := f.Encode(), 0
	for range 100000 {
		b := bytes.Clone(start)
		for range d.Between(1, 2) {
			b[d.Below(len(b))] += byte(d.Between(-3, 3))
			if d.Below(10) == 0 {
				b[d.Below(len(b))] = byte(d.Next())
			}
		}
		b = b[:len(b)-d.Below(20)/19]
		f, err := flow.Decode(b)
		if err != nil {
			wantFault(t, b)
			continue
		}
		read++
		if !bytes.Equal(f.Encode(), b) || event.Check(f.Events(1)...) != nil {
			t.Fatalf("% x is read, but laid as % x", b, f.Encode())
		}
	}
	if read < 1000 {
		t.Errorf("%d were read", read)
	}
}
