package flow_test

import (
	"math"
	"testing"

	"teasel/api"
	"teasel/flow"
)

func TestP1302Signal(t *testing.T) {
	f := begin(t)
	want(t, f, signal("hey", 6), api.OK)
	want(t, f, signal("", 6), api.OK)
	wantNew(t, f, 3, api.Event{Kind: api.ESignal, At: 6, Data: []byte("hey")}, api.Event{Kind: api.ESignal, At: 6})
	do(t, f, decides(2, 0, 6), decide(2, 0, 7))
	want(t, f, signal("x", 8), api.OK, oTask(8, 0))
	wantNew(t, f, 7, api.Event{Kind: api.ESignal, At: 8, Data: []byte("x")}, api.Event{Kind: api.EScheduled, At: 8, List: 2})
}

func TestP1302Cancel(t *testing.T) {
	f := begin(t)
	want(t, f, cancel(6), api.OK)
	wantNew(t, f, 3, api.Event{Kind: api.ECancel, At: 6})
	wantError(t, f, api.ErrUsed, cancel(6), cancel(mostTick))
	do(t, f, decides(2, 0, 6))
	wantError(t, f, api.ErrUsed, cancel(6))
	do(t, f, decide(2, 0, 6))
	wantError(t, f, api.ErrUsed, cancel(6))
	wantError(t, mustDecode(t, f.Encode()), api.ErrUsed, cancel(6))
}

// TestP1302Terminate: in whatever state it is, also where something is late.
func TestP1302Terminate(t *testing.T) {
	for _, f := range []*flow.Flow{begin(t), after(t, decides(2, 0, 5)), after(t, decides(2, 0, 5), decide(2, 0, 5)), rich(t)} {
		n := f.Len()
		want(t, f, terminate("so", 9), api.OK, oClose(api.STerminated, "so"))
		wantNew(t, f, n+1, api.Event{Kind: api.ETerminated, At: 9, Data: []byte("so")})
		if f.Status() != api.STerminated || string(f.Result()) != "so" {
			t.Errorf("%d, %q", f.Status(), f.Result())
		}
	}
	f := begin(t)
	want(t, f, terminate("", 5), api.OK, oClose(api.STerminated, ""))
	if len(f.Result()) != 0 {
		t.Errorf("%q", f.Result())
	}
}

func TestP1304Works(t *testing.T) {
	f := rich(t)
	wantError(t, f, api.ErrStale, works(5, 9), works(0, 9), works(1, 9), works(7, 9), works(11, 9), works(12, 9), works(17, 9), works(20, 9), works(21, 9), works(-1, 9))
	want(t, f, works(6, 10), api.OK, oLapse(6, 14))
	wantNew(t, f, 21, api.Event{Kind: api.EWorks, At: 10, Ref: 6, Id: 2})
	wantError(t, f, api.ErrStale, works(6, 10))
	do(t, f, worked(6, "", true, 10))
	wantError(t, f, api.ErrStale, works(6, 10))
}

// TestP1304Anew: of an Id that was used before, what was is no more.
func TestP1304Anew(t *testing.T) {
	f := rich(t)
	do(t, f, worked(5, "", true, 9), fire(flow.OTimer, 7, 0, 9), childEnds(9, 0, "", 9),
		decide(17, 1, 9, dActivity(1, 8, 2, "b"), dTimer(1, 6), dChild(9, 0, 1, "")))
	wantError(t, f, api.ErrStale, works(5, 9), worked(5, "", true, 9), worked(25, "", true, 9), fire(flow.OLapse, 5, 0, 9), fire(flow.OLapse, 25, 0, 9), fire(flow.OTimer, 7, 0, 9))
	if !f.Wants(25, -1) || f.Wants(5, -1) {
		t.Error("Wants")
	}
	want(t, f, works(25, 9), api.OK, oLapse(25, 11))
	want(t, f, worked(25, "", false, 9), api.OK)
	want(t, f, fire(flow.OTimer, 26, 0, 15), api.OK)
	want(t, f, childEnds(9, 2, "", 15), api.OK)
	wantNew(t, f, 29, api.Event{Kind: api.EWorks, At: 9, Ref: 25, Id: 1}, api.Event{Kind: api.EBroke, At: 9, Ref: 29, Id: 1},
		api.Event{Kind: api.EFired, At: 15, Ref: 26, Id: 1}, api.Event{Kind: api.EChildEnds, At: 15, Ref: 27, Id: 9, N: 2})
}

func TestP1304Worked(t *testing.T) {
	for kind, good := range map[int]bool{api.EWorked: true, api.EBroke: false} {
		f := rich(t)
		wantError(t, f, api.ErrStale, worked(6, "", good, 9), worked(0, "", good, 9), worked(7, "", good, 9), worked(12, "", good, 9), worked(21, "", good, 9), worked(-1, "", good, 9))
		want(t, f, worked(5, "r", good, 10), api.OK)
		wantNew(t, f, 21, api.Event{Kind: kind, At: 10, Ref: 12, Id: 1, Data: []byte("r")})
		wantError(t, f, api.ErrStale, worked(5, "", good, 10), worked(5, "", !good, 10), fire(flow.OLapse, 5, 0, 10), works(5, 10))
	}
}

// TestP1304FireKind: ahead of all else, also of a run that is closed or full.
func TestP1304FireKind(t *testing.T) {
	f := rich(t)
	for _, kind := range append(farOff(), 0, flow.OTask, flow.OWork, flow.OChild, flow.OClose, flow.ONext, 9, 1<<32+flow.OTimer) {
		wantError(t, f, api.ErrArg, fire(kind, 17, 1, 9), fire(kind, 5, 0, 9), fire(kind, 7, 0, 9), fire(kind, 0, 0, 9))
	}
}

func TestP1304Late(t *testing.T) {
	f := rich(t)
	wantError(t, f, api.ErrStale, fire(flow.OLate, 17, 0, 9), fire(flow.OLate, 17, 2, 9), fire(flow.OLate, 14, 0, 9), fire(flow.OLate, 19, 1, 9), fire(flow.OLate, 0, 1, 9), fire(flow.OLate, 0, 0, 9), fire(flow.OLate, 5, 0, 9))
	want(t, f, fire(flow.OLate, 17, 1, 10), api.OK, oTask(22, 2))
	wantNew(t, f, 21, api.Event{Kind: api.EMissed, At: 10, Ref: 19}, api.Event{Kind: api.EScheduled, At: 10, List: 2, N: 2})
	wantError(t, f, api.ErrStale, fire(flow.OLate, 17, 1, 10), fire(flow.OLate, 22, 2, 10), decide(17, 1, 10))
	want(t, f, decides(22, 2, 10), api.OK, oLate(22, 2, 20))
	want(t, f, decide(22, 2, 10, dComplete("")), api.OK, oClose(api.SCompleted, "")) // nothing is late any more
	f = after(t, decides(2, 0, 5), decide(2, 0, 5))
	wantError(t, f, api.ErrStale, fire(flow.OLate, 2, 0, 15), fire(flow.OLate, 0, 0, 15))
}

func TestP1304Lapse(t *testing.T) {
	f := rich(t)
	wantError(t, f, api.ErrStale, fire(flow.OLapse, 6, 0, 9), fire(flow.OLapse, 5, 1, 9), fire(flow.OLapse, 12, 0, 9), fire(flow.OLapse, 0, 0, 9), fire(flow.OLapse, 7, 0, 9), fire(flow.OLapse, 17, 1, 9))
	want(t, f, fire(flow.OLapse, 5, 0, 10), api.OK)
	wantNew(t, f, 21, api.Event{Kind: api.ELapsed, At: 10, Ref: 12, Id: 1})
	wantError(t, f, api.ErrStale, fire(flow.OLapse, 5, 0, 10), worked(5, "", true, 10), works(5, 10))
}

// TestP1304Timer: also ahead of its tick, for that is for who runs the flow to see to.
func TestP1304Timer(t *testing.T) {
	f := rich(t)
	wantError(t, f, api.ErrStale, fire(flow.OTimer, 8, 0, 20), fire(flow.OTimer, 7, 1, 20), fire(flow.OTimer, 7, -1, 20), fire(flow.OTimer, 0, 0, 20), fire(flow.OTimer, 5, 0, 20), fire(flow.OTimer, 11, 0, 20), fire(flow.OTimer, 21, 0, 20))
	want(t, f, fire(flow.OTimer, 7, 0, 9), api.OK)
	want(t, f, fire(flow.OTimer, 10, 0, 20), api.OK)
	wantNew(t, f, 21, api.Event{Kind: api.EFired, At: 9, Ref: 7, Id: 1}, api.Event{Kind: api.EFired, At: 20, Ref: 10, Id: 2})
	wantError(t, f, api.ErrStale, fire(flow.OTimer, 7, 0, 20), fire(flow.OTimer, 10, 0, 20))
}

func TestP1304ChildEnds(t *testing.T) {
	for status := api.SNone; status <= api.SContinued; status++ {
		f := rich(t)
		want(t, f, childEnds(9, status, "r", 10), api.OK)
		wantNew(t, f, 21, api.Event{Kind: api.EChildEnds, At: 10, Ref: 11, Id: 9, N: status, Data: []byte("r")})
		wantError(t, f, api.ErrStale, childEnds(9, status, "r", 10), childEnds(9, 9, "", 10))
	}
	f := rich(t)
	for _, status := range append(farOff(), api.SContinued+1, 1<<8, 1<<32) {
		wantError(t, f, api.ErrArg, childEnds(9, status, "", 9))
		wantError(t, f, api.ErrStale, childEnds(1, status, "", 9), childEnds(3, status, "", 9))
	}
	f = begin(t)
	wantError(t, f, api.ErrStale, childEnds(0, 0, "", 9), childEnds(9, -1, "", 9))
}

func TestP1305Events(t *testing.T) {
	f := rich(t)
	all := f.Events(1)
	for _, from := range []int{math.MinInt, -1, 0, 1} {
		if !sameEvents(f.Events(from), all) {
			t.Errorf("Events(%d)", from)
		}
	}
	for from := 1; from <= len(all); from++ {
		wantNew(t, f, from, all[from-1:]...)
	}
	for _, from := range []int{len(all) + 1, len(all) + 2, 1 << 32, math.MaxInt} {
		if l := f.Events(from); l != nil {
			t.Errorf("Events(%d): %v", from, l)
		}
	}
}

// TestP1305Wants: of each place and turn of rich, and as it goes on.
func TestP1305Wants(t *testing.T) {
	wantOnly := func(f *flow.Flow, wanted ...[2]int) {
		t.Helper()
		for ref := -2; ref < 30; ref++ {
			for turn := -3; turn < 6; turn++ {
				is := false
				for _, w := range wanted {
					is = is || w == [2]int{ref, turn}
				}
				if f.Wants(ref, turn) != is {
					t.Errorf("Wants(%d, %d): %v", ref, turn, !is)
				}
			}
		}
	}
	wantOnly(begin(t), [2]int{2, 0})
	f := rich(t)
	wantOnly(f, [2]int{6, -1})
	do(t, f, fire(flow.OLate, 17, 1, 9))
	wantOnly(f, [2]int{6, -1}, [2]int{22, 2})
	do(t, f, works(6, 9))
	wantOnly(f, [2]int{22, 2})
	do(t, f, decides(22, 2, 9))
	wantOnly(f)
	do(t, f, decide(22, 2, 9, dActivity(5, 0, 1, ""), dActivity(6, 0, 1, "")))
	wantOnly(f, [2]int{26, -1}, [2]int{27, -1})
	do(t, f, signal("", 9))
	wantOnly(f, [2]int{26, -1}, [2]int{27, -1}, [2]int{29, 0})
	do(t, f, terminate("", 9))
	wantOnly(f)
}

// TestP7Twin: two that are apart, whatever becomes of each.
func TestP7Twin(t *testing.T) {
	for _, c := range append(good(9), decide(17, 1, 9, dTimer(5, 1), dUnset(1), dActivity(7, 1, 1, "x"))) {
		f := rich(t)
		before := rich(t)
		g, h := f.Twin(), f.Twin()
		do(t, f, c)
		wantAlike(t, g, before)
		do(t, g, signal("other", 9), worked(5, "other", true, 9), fire(flow.OTimer, 10, 0, 9))
		wantAlike(t, h, before)
		do(t, before, c)
		wantAlike(t, f, before)
		do(t, h, c)
		wantAlike(t, h, f)
		wantAlike(t, g.Twin(), g)
	}
}

// TestP3Alike: the same calls answer the same, of another flow, a twin, and one that was decoded.
func TestP3Alike(t *testing.T) {
	for i := range good(9) {
		f, g := rich(t), rich(t)
		h, k := f.Twin(), mustDecode(t, f.Encode())
		outs, e := good(9)[i].on(f)
		for _, x := range []*flow.Flow{g, h, k} {
			want(t, x, good(9)[i], e, outs...)
			wantAlike(t, x, f)
		}
	}
}
