package flow_test

import (
	"bytes"
	"math"
	"slices"
	"testing"

	"teasel/api"
	"teasel/flow"
)

// long is Data of so many bytes.
func long(n int) []byte { return bytes.Repeat([]byte{'x'}, n) }

// good is a call of each kind that rich answers well, at a tick.
func good(now int) []call {
	return []call{
		signal("more", now),
		terminate("end", now),
		decide(17, 1, now),
		works(6, now),
		worked(5, "done", true, now),
		worked(5, "oh", false, now),
		fire(flow.OLate, 17, 1, now),
		fire(flow.OLapse, 5, 0, now),
		fire(flow.OTimer, 7, 0, now),
		childEnds(9, api.SFailed, "c", now),
	}
}

// others are calls that rich answers by an error, at a tick.
func others(now int) []call {
	return []call{cancel(now), decides(17, 1, now), decide(17, 0, now), works(5, now), worked(6, "", true, now),
		fire(flow.OLate, 14, 0, now), fire(flow.OLapse, 6, 0, now), fire(flow.OTimer, 8, 0, now),
		childEnds(8, 0, "", now), childEnds(9, 7, "", now)}
}

func TestP1301New(t *testing.T) {
	f := begin(t)
	wantNew(t, f, 1, api.Event{Kind: api.EStarted, At: 5, List: 2, N: 10, Data: []byte("in")}, api.Event{Kind: api.EScheduled, At: 5, List: 2})
	if f.Run() != 7 || f.Len() != 2 || f.Status() != api.SOpen || f.Result() != nil || !f.Wants(2, 0) {
		t.Errorf("%d, %d, %d, %q", f.Run(), f.Len(), f.Status(), f.Result())
	}
}

func TestP1301NewBounds(t *testing.T) {
	type args struct{ id, run, list, n, data, now int }
	most := args{api.MaxFlow, api.MaxTicks, api.MaxFlow, api.MaxTicks, api.MaxData, mostTick}
	least := args{0, 1, 0, 1, 0, 0}
	try := func(a args) (*flow.Flow, []flow.Out, api.Errno) {
		return flow.New(a.id, a.run, a.list, a.n, long(a.data), a.now)
	}
	for _, a := range []args{most, least} {
		f, outs, e := try(a)
		if e != api.OK || !sameOuts(outs, []flow.Out{{Kind: flow.OTask, List: a.list, Ref: 2}}) || f.Run() != a.run {
			t.Fatalf("%v: %v, %v", a, outs, e)
		}
		wantNew(t, f, 1, api.Event{Kind: api.EStarted, At: a.now, List: a.list, N: a.n, Data: long(a.data)}, api.Event{Kind: api.EScheduled, At: a.now, List: a.list})
		wantAlike(t, mustDecode(t, f.Encode()), f)
		o, e := f.Decides(2, 0, a.now)
		if e != api.OK || !sameOuts(o, []flow.Out{oLate(2, 0, a.now+a.n)}) {
			t.Errorf("%v: %v, %v", a, o, e)
		}
	}
	refuse := func(a args) {
		t.Helper()
		if f, outs, e := try(a); f != nil || outs != nil || e != api.ErrArg {
			t.Errorf("New(%v): %v, %v; want arg", a, outs, e)
		}
	}
	for _, from := range []args{most, least} {
		for _, v := range append(farOff(), api.MaxFlow+1) {
			a, b := from, from
			a.id, b.list = v, v
			refuse(a)
			refuse(b)
		}
		for _, v := range append(farOff(), 0, api.MaxTicks+1) {
			a, b := from, from
			a.run, b.n = v, v
			refuse(a)
			refuse(b)
		}
		for _, v := range farOff() {
			a := from
			a.now = v
			refuse(a)
		}
		from.data = api.MaxData + 1
		refuse(from)
		from.data = 1 << 20
		refuse(from)
	}
}

// TestP1301Now: each call at the last event's tick and at the greatest one, and not beside these.
func TestP1301Now(t *testing.T) {
	for i := range good(0) {
		for _, now := range []int{9, 10, mostTick} {
			f := rich(t)
			if _, e := good(now)[i].on(f); e != api.OK || f.Events(f.Len())[0].At != now {
				t.Errorf("%s at %d: %v", good(now)[i].name, now, e)
			}
		}
	}
	f := rich(t)
	for _, now := range append(farOff(), 8, 0) {
		wantError(t, f, api.ErrArg, good(now)...)
		wantError(t, f, api.ErrArg, others(now)...)
	}
	f = after(t, signal("", mostTick))
	wantError(t, f, api.ErrArg, signal("", mostTick-1), signal("", mostTick+1))
	want(t, f, decides(2, 0, mostTick), api.OK, oLate(2, 0, mostTick+10))
	g, _, _ := flow.New(1, 1, 1, 1, nil, 0)
	want(t, g, signal("", 0), api.OK)
}

func TestP1301Data(t *testing.T) {
	with := func(data []byte) []call {
		return []call{
			{name: "signal", data: data, now: 9},
			{name: "terminate", data: data, now: 9},
			{name: "worked", ref: 5, data: data, now: 9},
			{name: "worked", ref: 5, data: data, good: true, now: 9},
			{name: "childends", id: 9, data: data, now: 9},
		}
	}
	for _, n := range []int{0, 1, api.MaxData} {
		for _, c := range with(long(n)) {
			f := rich(t)
			do(t, f, c)
			if e := f.Events(f.Len())[0]; !bytes.Equal(e.Data, long(n)) {
				t.Errorf("%s: %+v", c.name, e)
			}
		}
	}
	wantError(t, rich(t), api.ErrArg, append(with(long(api.MaxData+1)), with(long(1<<20))...)...)
}

// TestP1301Id: ChildEnds' bounds are asked ahead of whether there is such a child.
func TestP1301Id(t *testing.T) {
	f := rich(t)
	for _, id := range append(farOff(), api.MaxFlow+1) {
		wantError(t, f, api.ErrArg, childEnds(id, api.SNone, "", 9))
	}
	wantError(t, f, api.ErrStale, childEnds(0, api.SNone, "", 9), childEnds(api.MaxFlow, api.SNone, "", 9))
	f = after(t, decides(2, 0, 5), decide(2, 0, 5, dChild(0, 0, 1, ""), dChild(api.MaxFlow, 0, 1, "")))
	want(t, f, childEnds(0, api.SNone, "", 5), api.OK, oTask(8, 0))
	want(t, f, childEnds(api.MaxFlow, api.SNone, "", 5), api.OK)
}

// TestP1301Places: places and turns have no bounds of their own; none that is far off is anything's.
func TestP1301Places(t *testing.T) {
	f, g := rich(t), begin(t)
	for _, v := range append(farOff(), mostTick, 1<<32+5, 1<<32+17) {
		wantError(t, f, api.ErrStale, decide(v, 1, 9), decide(17, v, 9), works(v, 9), worked(v, "", true, 9), worked(v, "", false, 9),
			fire(flow.OLate, v, 1, 9), fire(flow.OLate, 17, v, 9), fire(flow.OLapse, v, 0, 9), fire(flow.OLapse, 5, v, 9),
			fire(flow.OTimer, v, 0, 9), fire(flow.OTimer, 7, v, 9))
		wantError(t, g, api.ErrStale, decides(v, 0, 5), decides(2, v, 5), works(v, 5))
		if f.Wants(v, -1) || f.Wants(v, 0) || f.Wants(6, v) && v != -1 || g.Wants(2, v) || g.Wants(v, 0) {
			t.Errorf("Wants of %d", v)
		}
	}
}

// closings close rich, each in its way.
func closings() []struct {
	l      []call
	status int
	data   string
} {
	type one = struct {
		l      []call
		status int
		data   string
	}
	anew := []call{decide(17, 1, 9), decides(22, 0, 9)}
	by := func(d api.Decision) []call { return append(slices.Clone(anew), decide(22, 0, 9, d)) }
	return []one{
		{[]call{terminate("T", 9)}, api.STerminated, "T"},
		{by(dComplete("C")), api.SCompleted, "C"},
		{by(dFail("F")), api.SFailed, "F"},
		{by(dCancel()), api.SCanceled, ""},
		{by(dContinue("N")), api.SContinued, "N"},
	}
}

// TestP1301Closed: each call of a closed run, bounds first; what can be seen of it is told.
func TestP1301Closed(t *testing.T) {
	for _, c := range closings() {
		f := rich(t)
		do(t, f, c.l...)
		for _, now := range []int{9, 10, mostTick} {
			wantError(t, f, api.ErrClosed, good(now)...)
			wantError(t, f, api.ErrClosed, others(now)...)
			wantError(t, f, api.ErrClosed, decides(14, 0, now), decides(22, 0, now), decide(22, 0, now))
		}
		wantError(t, f, api.ErrArg, good(8)...)
		wantError(t, f, api.ErrArg, others(mostTick+1)...)
		wantError(t, f, api.ErrArg, signal(string(long(api.MaxData+1)), 9), childEnds(-1, 0, "", 9), fire(0, 1, 0, 9), fire(flow.OTask, 1, 0, 9))
		if f.Status() != c.status || string(f.Result()) != c.data || f.Run() != 7 || f.Len() != len(f.Events(1)) {
			t.Errorf("%d, %q; want %d, %q", f.Status(), f.Result(), c.status, c.data)
		}
		for ref := range f.Len() + 2 {
			for turn := -2; turn < 3; turn++ {
				if f.Wants(ref, turn) {
					t.Errorf("Wants(%d, %d) of a closed run", ref, turn)
				}
			}
		}
		wantAlike(t, mustDecode(t, f.Encode()), f)
	}
}

// stuffed is f with signals behind its first task's EScheduled, so many that it has n events, and a call of it that is about the same things.
func stuffed(t *testing.T, f *flow.Flow, n int, c call) (*flow.Flow, call) {
	t.Helper()
	l := f.Events(1)
	by := n - len(l)
	for i := range l {
		if l[i].Ref > 2 {
			l[i].Ref += by
		}
	}
	if c.ref > 2 {
		c.ref += by
	}
	signals := slices.Repeat([]api.Event{{Kind: api.ESignal, At: 5}}, by)
	return mustDecode(t, laid(3, 7, slices.Insert(l, 2, signals...)...)), c
}

// TestP1301Full: each call where it just fits, and where it is an event short, or more.
func TestP1301Full(t *testing.T) {
	all := make([]api.Decision, api.MaxList)
	for i := range all {
		all[i] = dTimer(i+3, 1)
	}
	fails := append(slices.Clone(all[1:]), dFail(""))
	idle := func(t *testing.T) *flow.Flow { // no task is scheduled: what comes wakes
		return after(t, decides(2, 0, 5), decide(2, 0, 6, dActivity(1, 4, 3, "a"), dActivity(2, 5, 4, ""), dTimer(1, 7), dChild(9, 6, 5, "c")), works(5, 9))
	}
	waiting := func(t *testing.T) *flow.Flow { // a task is scheduled
		f := idle(t)
		do(t, f, cancel(9))
		return f
	}
	begun := func(t *testing.T) *flow.Flow { // nothing is late
		f := waiting(t)
		do(t, f, decides(11, 0, 9))
		return f
	}
	for _, x := range []struct {
		from func(t *testing.T) *flow.Flow
		c    call
		more int // events
		e    api.Errno
	}{
		{begin, signal("", 9), 1, api.OK},
		{begin, cancel(9), 1, api.OK},
		{begin, terminate("", 9), 1, api.OK},
		{begin, decides(2, 0, 9), 1, api.OK},
		{waiting, decides(11, 0, 9), 1, api.OK},
		{waiting, works(6, 9), 1, api.OK},
		{waiting, worked(5, "", true, 9), 1, api.OK},
		{waiting, worked(5, "", false, 9), 1, api.OK},
		{waiting, fire(flow.OLapse, 5, 0, 9), 1, api.OK},
		{waiting, fire(flow.OTimer, 7, 0, 9), 1, api.OK},
		{waiting, childEnds(9, 0, "", 9), 1, api.OK},
		{idle, signal("", 9), 2, api.OK},
		{idle, cancel(9), 2, api.OK},
		{idle, terminate("", 9), 1, api.OK},
		{idle, works(6, 9), 1, api.OK},
		{idle, worked(5, "", true, 9), 2, api.OK},
		{idle, worked(5, "", false, 9), 2, api.OK},
		{idle, fire(flow.OLapse, 5, 0, 9), 2, api.OK},
		{idle, fire(flow.OTimer, 7, 0, 9), 2, api.OK},
		{idle, childEnds(9, 0, "", 9), 2, api.OK},
		{begun, signal("", 9), 1, api.OK},
		{begun, worked(5, "", true, 9), 1, api.OK},
		{begun, fire(flow.OLate, 11, 0, 9), 2, api.OK},
		{begun, decide(11, 0, 9), 1, api.OK},
		{begun, decide(11, 0, 9, dUnset(1), dTimer(1, 1)), 3, api.OK},
		{begun, decide(11, 0, 9, all...), 1 + api.MaxList, api.OK},
		{begun, decide(11, 0, 9, dContinue("")), 2, api.OK},
		{begun, decide(11, 0, 9, fails...), 1 + api.MaxList, api.OK},
		{begun, decide(11, 0, 9, dUnset(3)), 2, api.ErrBad},
		{rich, fire(flow.OLate, 17, 1, 9), 2, api.OK},
		{rich, decide(17, 1, 9), 2, api.OK},
		{rich, decide(17, 1, 9, all...), 2 + api.MaxList, api.OK},
		{rich, decide(17, 1, 9, append(all, dTimer(1, 1))...), 2, api.ErrBad},
		{rich, decide(17, 1, 9, fails...), 2, api.ErrLate},
	} {
		f, c := stuffed(t, x.from(t), api.MaxEvents-x.more, x.c)
		wantFills(t, f, c, x.e)
		for short := range x.more {
			f, c := stuffed(t, x.from(t), api.MaxEvents-short, x.c)
			wantError(t, f, api.ErrFull, c)
		}
	}
}

func wantFills(t *testing.T, f *flow.Flow, c call, e api.Errno) {
	t.Helper()
	if _, err := c.on(f); err != e || f.Len() != api.MaxEvents {
		t.Errorf("%s: %v, %d events; want %v", c.name, err, f.Len(), e)
	}
	e = api.ErrFull
	if f.Status() != api.SOpen {
		e = api.ErrClosed
	}
	wantError(t, f, e, signal("", mostTick), terminate("", mostTick))
	wantAlike(t, mustDecode(t, f.Encode()), f)
}

// TestP1301FullLast: other errors stand ahead of ErrFull, for such a call makes no events.
func TestP1301FullLast(t *testing.T) {
	f := rich(t)
	for f.Len() < api.MaxEvents {
		do(t, f, signal("", 9))
	}
	wantError(t, f, api.ErrUsed, cancel(9))
	wantError(t, f, api.ErrStale, decides(17, 1, 9), decide(17, 0, 9), works(5, 9), worked(6, "", true, 9), fire(flow.OTimer, 8, 0, 9), childEnds(8, 9, "", 9))
	wantError(t, f, api.ErrArg, signal("", 8), childEnds(9, 7, "", 9), fire(4096, 1, 0, 9))
	wantError(t, f, api.ErrFull, decide(17, 1, 9, dUnset(9)), decide(17, 1, 9, dFail("")), decide(17, 1, 9))
}

// TestP1301Turns: 0 in the beginning and behind EDecided, one more behind EMissed and EFaulty.
func TestP1301Turns(t *testing.T) {
	f := begin(t)
	at := 2
	for turn := range 40 {
		want(t, f, decides(at, turn, 5), api.OK, oLate(at, turn, 15))
		c, e := fire(flow.OLate, at, turn, 5), api.OK
		if turn%3 == 1 {
			c, e = decide(at, turn, 5, dUnset(1)), api.ErrBad
		}
		if turn%3 == 2 {
			do(t, f, signal("", 5))
			c, e = decide(at, turn, 5, dFail("")), api.ErrLate
		}
		at = f.Len() + 2
		want(t, f, c, e, oTask(at, turn+1))
		wantNew(t, f, at, api.Event{Kind: api.EScheduled, At: 5, List: 2, N: turn + 1})
		if f.Wants(at, turn) || !f.Wants(at, turn+1) {
			t.Errorf("Wants of turn %d", turn+1)
		}
		wantAlike(t, mustDecode(t, f.Encode()), f)
	}
	do(t, f, decides(at, 40, 5))
	want(t, f, decide(at, 40, 5), api.OK)
	want(t, f, signal("", 5), api.OK, oTask(f.Len()+2, 0))
}

// TestP1301Wake: behind what comes a task is scheduled, or one that waits stays, or one that is begun is late.
func TestP1301Wake(t *testing.T) {
	open := []api.Decision{dActivity(1, 4, 3, ""), dActivity(2, 5, 4, ""), dActivity(3, 5, 4, ""), dTimer(1, 7), dChild(9, 6, 5, "")}
	comes := []struct {
		c call
		e api.Event
	}{
		{signal("x", 6), api.Event{Kind: api.ESignal, Data: []byte("x")}},
		{cancel(6), api.Event{Kind: api.ECancel}},
		{worked(5, "r", true, 6), api.Event{Kind: api.EWorked, Ref: 10, Id: 1, Data: []byte("r")}},
		{worked(6, "q", false, 6), api.Event{Kind: api.EBroke, Ref: 11, Id: 2, Data: []byte("q")}},
		{fire(flow.OLapse, 7, 0, 6), api.Event{Kind: api.ELapsed, Ref: 12, Id: 3}},
		{fire(flow.OTimer, 8, 0, 6), api.Event{Kind: api.EFired, Ref: 8, Id: 1}},
		{childEnds(9, api.SCanceled, "d", 6), api.Event{Kind: api.EChildEnds, Ref: 9, Id: 9, N: api.SCanceled, Data: []byte("d")}},
	}
	idle := func() *flow.Flow {
		return after(t, decides(2, 0, 5), decide(2, 0, 5, open...), works(5, 5), works(6, 5), works(7, 5))
	}
	for _, x := range comes {
		x.e.At = 6
		f := idle()
		want(t, f, x.c, api.OK, oTask(14, 0))
		wantNew(t, f, 13, x.e, api.Event{Kind: api.EScheduled, At: 6, List: 2})

		f = idle()
		do(t, f, signal("", 5))
		want(t, f, x.c, api.OK)
		wantNew(t, f, 15, x.e)
		do(t, f, decides(14, 0, 6)) // what came ahead of it is not late
		want(t, f, decide(14, 0, 6, dFail("")), api.OK, oClose(api.SFailed, ""))

		f = idle()
		do(t, f, signal("", 5), decides(14, 0, 5))
		want(t, f, x.c, api.OK)
		wantNew(t, f, 16, x.e)
		g := f.Twin()
		want(t, f, decide(14, 0, 6, dFail("")), api.ErrLate, oTask(18, 1))
		want(t, g, decide(14, 0, 6), api.OK, oTask(18, 0))
	}
}

// TestP1Zero: a Flow that New did not make is none that is open.
func TestP1Zero(t *testing.T) {
	f := new(flow.Flow)
	wantError(t, f, api.ErrClosed, good(5)...)
	wantError(t, f, api.ErrClosed, others(5)...)
	wantError(t, f, api.ErrArg, good(-1)...)
	if f.Status() != api.SNone || f.Len() != 0 || f.Run() != 0 || f.Result() != nil || f.Events(math.MinInt) != nil || f.Wants(0, 0) || f.Wants(0, -1) || f.Wants(1, -1) {
		t.Error("something is told of it")
	}
	wantFault(t, f.Twin().Encode())
}
