package flow_test

import (
	"bytes"
	"errors"
	"math"
	"slices"
	"testing"

	"teasel/api"
	"teasel/codec"
	"teasel/event"
	"teasel/flow"
)

const mostTick = 1 << 40

// farOff are numbers that nothing here may be.
func farOff() []int {
	return []int{math.MinInt, math.MinInt + 1, -1 << 41, -1 << 32, -2, -1, mostTick + 1, 1<<41 + 1, 1<<62 + 1, math.MaxInt - 1, math.MaxInt}
}

// call is one of a flow, by its name, with all that it may be handed.
type call struct {
	name                        string
	kind, ref, turn, id, status int
	data                        []byte
	good                        bool
	l                           []api.Decision
	now                         int
}

func (c call) on(f *flow.Flow) ([]flow.Out, api.Errno) {
	switch c.name {
	case "signal":
		return f.Signal(c.data, c.now)
	case "cancel":
		return f.Cancel(c.now)
	case "terminate":
		return f.Terminate(c.data, c.now)
	case "decides":
		return f.Decides(c.ref, c.turn, c.now)
	case "decide":
		return f.Decide(c.ref, c.turn, c.l, c.now)
	case "works":
		return f.Works(c.ref, c.now)
	case "worked":
		return f.Worked(c.ref, c.data, c.good, c.now)
	case "fire":
		return f.Fire(c.kind, c.ref, c.turn, c.now)
	case "childends":
		return f.ChildEnds(c.id, c.status, c.data, c.now)
	}
	panic("no call: " + c.name)
}

func signal(s string, now int) call    { return call{name: "signal", data: []byte(s), now: now} }
func cancel(now int) call              { return call{name: "cancel", now: now} }
func terminate(s string, now int) call { return call{name: "terminate", data: []byte(s), now: now} }
func decides(ref, turn, now int) call  { return call{name: "decides", ref: ref, turn: turn, now: now} }
func works(ref, now int) call          { return call{name: "works", ref: ref, now: now} }

func decide(ref, turn, now int, l ...api.Decision) call {
	return call{name: "decide", ref: ref, turn: turn, l: l, now: now}
}

func worked(ref int, s string, good bool, now int) call {
	return call{name: "worked", ref: ref, data: []byte(s), good: good, now: now}
}

func fire(kind, ref, turn, now int) call {
	return call{name: "fire", kind: kind, ref: ref, turn: turn, now: now}
}

func childEnds(id, status int, s string, now int) call {
	return call{name: "childends", id: id, status: status, data: []byte(s), now: now}
}

// Decisions, none of which lacks what it must have.
func dActivity(id, list, n int, s string) api.Decision {
	return api.Decision{Kind: api.DActivity, Id: id, List: list, N: n, Data: []byte(s)}
}
func dTimer(id, n int) api.Decision { return api.Decision{Kind: api.DTimer, Id: id, N: n} }
func dUnset(id int) api.Decision    { return api.Decision{Kind: api.DUnset, Id: id} }
func dChild(id, list, n int, s string) api.Decision {
	return api.Decision{Kind: api.DChild, Id: id, List: list, N: n, Data: []byte(s)}
}
func dComplete(s string) api.Decision { return api.Decision{Kind: api.DComplete, Data: []byte(s)} }
func dFail(s string) api.Decision     { return api.Decision{Kind: api.DFail, Data: []byte(s)} }
func dCancel() api.Decision           { return api.Decision{Kind: api.DCancel} }
func dContinue(s string) api.Decision { return api.Decision{Kind: api.DContinue, Data: []byte(s)} }

// Outs.
func oTask(ref, turn int) flow.Out {
	return flow.Out{Kind: flow.OTask, List: 2, Ref: ref, Turn: turn}
}
func oLate(ref, turn, at int) flow.Out {
	return flow.Out{Kind: flow.OLate, Ref: ref, Turn: turn, At: at}
}
func oWork(list, ref int) flow.Out { return flow.Out{Kind: flow.OWork, List: list, Ref: ref} }
func oLapse(ref, at int) flow.Out  { return flow.Out{Kind: flow.OLapse, Ref: ref, At: at} }
func oTimer(ref, at int) flow.Out  { return flow.Out{Kind: flow.OTimer, Ref: ref, At: at} }
func oClose(status int, s string) flow.Out {
	return flow.Out{Kind: flow.OClose, N: status, Data: []byte(s)}
}

func sameOut(a, b flow.Out) bool {
	return a.Kind == b.Kind && a.List == b.List && a.Ref == b.Ref && a.Turn == b.Turn &&
		a.At == b.At && a.Id == b.Id && a.N == b.N && bytes.Equal(a.Data, b.Data)
}

func sameOuts(a, b []flow.Out) bool { return slices.EqualFunc(a, b, sameOut) }

func sameEvents(a, b []api.Event) bool { return len(a) == len(b) && event.Prefix(a, b) }

// begin is workflow 3, run 7, whose decision tasks go to list 2 and may last 10 ticks, at tick 5: its first task is at 2.
func begin(t *testing.T) *flow.Flow {
	t.Helper()
	f, outs, e := flow.New(3, 7, 2, 10, []byte("in"), 5)
	if f == nil || e != api.OK || !sameOuts(outs, []flow.Out{oTask(2, 0)}) {
		t.Fatalf("New: %v, %v", outs, e)
	}
	return f
}

// after is begin with some calls that must be OK.
func after(t *testing.T, l ...call) *flow.Flow {
	t.Helper()
	f := begin(t)
	do(t, f, l...)
	return f
}

func do(t *testing.T, f *flow.Flow, l ...call) {
	t.Helper()
	for i, c := range l {
		if _, e := c.on(f); e != api.OK {
			t.Fatalf("call %d, %s: %v", i+1, c.name, e)
		}
	}
}

// want makes a call, and asks for what it answers and (P1306) for the history behind it.
func want(t *testing.T, f *flow.Flow, c call, e api.Errno, outs ...flow.Out) {
	t.Helper()
	before := f.Events(1)
	o, err := c.on(f)
	if err != e || !sameOuts(o, outs) {
		t.Fatalf("%s: %+v, %v; want %+v, %v", c.name, o, err, outs, e)
	}
	l := f.Events(1)
	if broken := event.Check(l...); broken != nil || !event.Prefix(before, l) || f.Len() != len(l) {
		t.Fatalf("%s: %v; %d events behind %d", c.name, broken, f.Len(), len(before))
	}
	if e != api.OK && e != api.ErrBad && e != api.ErrLate && len(l) != len(before) {
		t.Fatalf("P5: %s: %v, but %d events more", c.name, e, len(l)-len(before))
	}
}

// wantNew asks for the events that a call added.
func wantNew(t *testing.T, f *flow.Flow, from int, l ...api.Event) {
	t.Helper()
	if got := f.Events(from); !sameEvents(got, l) {
		t.Fatalf("events from %d on: %+v; want %+v", from, got, l)
	}
}

// wantError makes calls that must answer an error and change nothing: what they change could be told by no later call.
func wantError(t *testing.T, f *flow.Flow, e api.Errno, l ...call) {
	t.Helper()
	before, twin := f.Encode(), f.Twin()
	for _, c := range l {
		if outs, err := c.on(f); err != e || outs != nil {
			t.Errorf("%s %+v: %v, %v; want %v", c.name, c, outs, err, e)
		}
	}
	if !bytes.Equal(f.Encode(), before) {
		t.Errorf("P5: %v has changed something", e)
	}
	wantAlike(t, f, twin)
}

// wantAlike asks all that can be told of two flows without a call of them.
func wantAlike(t *testing.T, f, g *flow.Flow) {
	t.Helper()
	if f.Status() != g.Status() || f.Run() != g.Run() || f.Len() != g.Len() || !bytes.Equal(f.Result(), g.Result()) ||
		!sameEvents(f.Events(1), g.Events(1)) || !bytes.Equal(f.Encode(), g.Encode()) {
		t.Errorf("not alike: %+v and %+v", f.Events(1), g.Events(1))
	}
	for ref := range min(f.Len(), 64) + 2 {
		for turn := -2; turn < 5; turn++ {
			if f.Wants(ref, turn) != g.Wants(ref, turn) {
				t.Errorf("Wants(%d, %d): %v and %v", ref, turn, f.Wants(ref, turn), g.Wants(ref, turn))
			}
		}
	}
}

func mustDecode(t *testing.T, b []byte) *flow.Flow {
	t.Helper()
	f, err := flow.Decode(b)
	if f == nil || err != nil {
		t.Fatalf("Decode: %v", err)
	}
	return f
}

// wantFault asks of bytes that are none for a Fault, and tells it.
func wantFault(t *testing.T, b []byte) *codec.Fault {
	t.Helper()
	f, err := flow.Decode(b)
	var x *codec.Fault
	if f != nil || !errors.As(err, &x) {
		t.Fatalf("Decode: %v, %v; want a Fault", f, err)
	}
	if !errors.Is(err, x.Err) || x.Err == api.OK || x.At < 0 || x.At > len(b) || x.What == "" {
		t.Errorf("Decode: %v", err)
	}
	return x
}

// laid is what a flow of that history would be laid as.
func laid(id, run int, l ...api.Event) []byte {
	return codec.NewWriter().Int(int64(id)).Int(int64(run)).Bytes(event.Encode(l...)).Done()
}

// rich is a flow at tick 9 of 20 events, with a begun decision task (of place 17, turn 1, begun at 19), and open: an activity that is begun (5, Id 1), one that waits (6, Id 2), timers (7, Id 1; 10, Id 2), a child (11, Id 9). It is asked to be canceled, and something came late.
func rich(t *testing.T) *flow.Flow {
	t.Helper()
	return after(t, decides(2, 0, 5),
		decide(2, 0, 6, dActivity(1, 4, 3, "a"), dActivity(2, 5, 4, ""), dTimer(1, 7), dTimer(2, 8), dUnset(2), dTimer(2, 9), dChild(9, 6, 5, "c")),
		works(5, 7), signal("s", 7), decides(14, 0, 7), fire(flow.OLate, 14, 0, 8),
		cancel(8), decides(17, 1, 8), signal("", 9))
}
