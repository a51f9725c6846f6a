package flow_test

import (
	"slices"
	"strings"
	"testing"

	"teasel/api"
	"teasel/flow"
)

func TestP1303Decides(t *testing.T) {
	f := begin(t)
	wantError(t, f, api.ErrStale, decides(1, 0, 6), decides(3, 0, 6), decides(0, 0, 6), decides(2, 1, 6), decides(2, -1, 6))
	want(t, f, decides(2, 0, 6), api.OK, oLate(2, 0, 16))
	wantNew(t, f, 3, api.Event{Kind: api.EDecides, At: 6, Ref: 2})
	wantError(t, f, api.ErrStale, decides(2, 0, 6), decides(3, 0, 6), decides(2, 1, 6))
	want(t, f, fire(flow.OLate, 2, 0, 7), api.OK, oTask(5, 1))
	wantError(t, f, api.ErrStale, decides(2, 0, 7), decides(2, 1, 7), decides(5, 0, 7), decides(4, 1, 7))
	want(t, f, decides(5, 1, 8), api.OK, oLate(5, 1, 18))
	want(t, f, decide(5, 1, 8), api.OK)
	wantError(t, f, api.ErrStale, decides(5, 1, 8), decides(5, 0, 8), decides(0, 0, 8), decides(2, 0, 8))
	want(t, f, signal("", 9), api.OK, oTask(9, 0))
	want(t, f, decides(9, 0, 9), api.OK, oLate(9, 0, 19))
}

// TestP1303DecideStale: also where the decisions may not be.
func TestP1303DecideStale(t *testing.T) {
	bad := api.Decision{Kind: -1}
	f := begin(t)
	wantError(t, f, api.ErrStale, decide(2, 0, 6), decide(0, 0, 6), decide(2, 0, 6, bad))
	do(t, f, decides(2, 0, 6))
	wantError(t, f, api.ErrStale, decide(3, 0, 6), decide(1, 0, 6), decide(2, 1, 6), decide(2, -1, 6, bad), decide(0, 0, 6))
	do(t, f, fire(flow.OLate, 2, 0, 6))
	wantError(t, f, api.ErrStale, decide(2, 0, 6), decide(5, 1, 6), decide(5, 0, 6))
	do(t, f, decides(5, 1, 6))
	wantError(t, f, api.ErrStale, decide(2, 0, 6), decide(5, 0, 6, bad), decide(2, 1, 6))
	want(t, f, decide(5, 1, 7), api.OK)
	wantNew(t, f, 7, api.Event{Kind: api.EDecided, At: 7, Ref: 6})
	wantError(t, f, api.ErrStale, decide(5, 1, 7), decide(5, 0, 7), decide(0, 0, 7, bad), decide(6, 0, 7))
}

// TestP1303Each: what each decision comes to, all fields of it.
func TestP1303Each(t *testing.T) {
	for _, x := range []struct {
		d    api.Decision
		e    api.Event
		outs []flow.Out
	}{
		{dActivity(4, 6, 8, "a"), api.Event{Kind: api.EActivity, Id: 4, List: 6, N: 8, Data: []byte("a")}, []flow.Out{oWork(6, 22)}},
		{dTimer(4, 8), api.Event{Kind: api.ETimer, Id: 4, N: 8}, []flow.Out{oTimer(22, 17)}},
		{dUnset(1), api.Event{Kind: api.EUnset, Id: 1, Ref: 7}, nil},
		{dUnset(2), api.Event{Kind: api.EUnset, Id: 2, Ref: 10}, nil},
		{dChild(4, 6, 8, "c"), api.Event{Kind: api.EChild, Id: 4, List: 6, N: 8, Data: []byte("c")},
			[]flow.Out{{Kind: flow.OChild, Id: 4, List: 6, N: 8, Data: []byte("c"), Ref: 22}}},
	} {
		f := rich(t)
		x.e.At = 9
		want(t, f, decide(17, 1, 9, x.d), api.OK, append(x.outs, oTask(23, 0))...)
		wantNew(t, f, 21, api.Event{Kind: api.EDecided, At: 9, Ref: 19}, x.e, api.Event{Kind: api.EScheduled, At: 9, List: 2})
		wantAlike(t, mustDecode(t, f.Encode()), f)
	}
	for _, x := range []struct {
		d    api.Decision
		kind int
		out  flow.Out
	}{
		{dComplete("x"), api.ECompleted, oClose(api.SCompleted, "x")},
		{dFail("x"), api.EFailed, oClose(api.SFailed, "x")},
		{dCancel(), api.ECanceled, oClose(api.SCanceled, "")},
		{dContinue("x"), api.EContinued, flow.Out{Kind: flow.ONext, Data: []byte("x")}},
	} {
		f := after(t, cancel(5), decides(2, 0, 5))
		want(t, f, decide(2, 0, 9, x.d), api.OK, x.out)
		wantNew(t, f, 5, api.Event{Kind: api.EDecided, At: 9, Ref: 4}, api.Event{Kind: x.kind, At: 9, Data: x.d.Data})
		if f.Status() != x.out.N && f.Status() != api.SContinued || f.Status() == api.SOpen || string(f.Result()) != string(x.d.Data) {
			t.Errorf("%+v: %d, %q", x.d, f.Status(), f.Result())
		}
		wantAlike(t, mustDecode(t, f.Encode()), f)
	}
}

// TestP1303All: decisions of one task, in order, those ahead counted.
func TestP1303All(t *testing.T) {
	f := after(t, cancel(5), decides(2, 0, 5))
	want(t, f, decide(2, 0, 9, dTimer(1, 3), dActivity(1, 0, 1, ""), dUnset(1), dChild(1, 0, 1, ""), dTimer(1, 4), dTimer(0, 5), dUnset(1), dContinue("n")), api.OK,
		oTimer(6, 12), oWork(0, 7), flow.Out{Kind: flow.OChild, Id: 1, N: 1, Ref: 9}, oTimer(10, 13), oTimer(11, 14), flow.Out{Kind: flow.ONext, Data: []byte("n")})
	wantNew(t, f, 5,
		api.Event{Kind: api.EDecided, At: 9, Ref: 4},
		api.Event{Kind: api.ETimer, At: 9, Id: 1, N: 3},
		api.Event{Kind: api.EActivity, At: 9, Id: 1, N: 1},
		api.Event{Kind: api.EUnset, At: 9, Id: 1, Ref: 6},
		api.Event{Kind: api.EChild, At: 9, Id: 1, N: 1},
		api.Event{Kind: api.ETimer, At: 9, Id: 1, N: 4},
		api.Event{Kind: api.ETimer, At: 9, N: 5},
		api.Event{Kind: api.EUnset, At: 9, Id: 1, Ref: 10},
		api.Event{Kind: api.EContinued, At: 9, Data: []byte("n")})
	wantAlike(t, mustDecode(t, f.Encode()), f)
}

// TestP1303Bad: each that may not be, alone, and behind and ahead of one that may. Nothing of them is done.
func TestP1303Bad(t *testing.T) {
	most := make([]api.Decision, api.MaxList+1)
	for i := range most {
		most[i] = dActivity(100+i, 0, 1, "")
	}
	for i, l := range [][]api.Decision{
		most,
		slices.Repeat([]api.Decision{dTimer(5, 1), dUnset(5)}, 17),
		{{}},
		{{Kind: 9}},
		{{Kind: api.DActivity, Id: 5}},
		{dUnset(1), {Kind: api.DTimer, Id: 1, N: 1, Data: []byte{0}}},
		{dComplete("x"), dComplete("x")},
		{dContinue(""), dTimer(5, 1)},
		{dFail(""), dCancel()},
		{dCancel(), dTimer(5, 1)},
		{dActivity(1, 0, 1, "")},
		{dActivity(2, 0, 1, "")},
		{dActivity(3, 0, 1, ""), dActivity(3, 0, 1, "")},
		{dTimer(1, 1)},
		{dTimer(2, 1)},
		{dTimer(3, 1), dTimer(3, 1)},
		{dUnset(1), dTimer(1, 1), dTimer(1, 1)},
		{dChild(9, 0, 1, "")},
		{dChild(8, 0, 1, ""), dChild(8, 0, 1, "")},
		{dChild(3, 0, 1, "")}, // the workflow itself
		{dUnset(3)},
		{dUnset(9)},
		{dUnset(0)},
		{dUnset(1), dUnset(1)},
		{dTimer(3, 1), dUnset(3), dUnset(3)},
	} {
		if i > 1 {
			l = append([]api.Decision{dTimer(50, 1)}, l...)
		}
		f := rich(t)
		want(t, f, decide(17, 1, 9, l...), api.ErrBad, oTask(22, 2))
		wantNew(t, f, 21, api.Event{Kind: api.EFaulty, At: 9, Ref: 19, N: 1}, api.Event{Kind: api.EScheduled, At: 9, List: 2, N: 2})
		if !f.Wants(22, 2) || f.Wants(17, 1) || f.Status() != api.SOpen {
			t.Errorf("%+v: what is wanted", l)
		}
		wantAlike(t, mustDecode(t, f.Encode()), f)
		do(t, f, decides(22, 2, 9))
		want(t, f, decide(22, 2, 9, dFail("")), api.OK, oClose(api.SFailed, "")) // nothing is late any more
	}
}

// TestP1303BadCancel: DCancel, though it was not asked; also where something else came late.
func TestP1303BadCancel(t *testing.T) {
	f := after(t, decides(2, 0, 5))
	want(t, f, decide(2, 0, 5, dCancel()), api.ErrBad, oTask(5, 1))
	do(t, f, decides(5, 1, 5), signal("", 5))
	want(t, f, decide(5, 1, 5, dCancel()), api.ErrBad, oTask(9, 2))
	wantNew(t, f, 8, api.Event{Kind: api.EFaulty, At: 5, Ref: 6, N: 1}, api.Event{Kind: api.EScheduled, At: 5, List: 2, N: 2})
	do(t, f, decides(9, 2, 5), cancel(5))
	want(t, f, decide(9, 2, 5, dCancel()), api.ErrLate, oTask(13, 3))
	do(t, f, decides(13, 3, 5))
	want(t, f, decide(13, 3, 5, dCancel()), api.OK, oClose(api.SCanceled, ""))
}

// TestP1303Good: what a decision is held against is its own kind, and what is open yet.
func TestP1303Good(t *testing.T) {
	for _, l := range [][]api.Decision{
		nil,
		{},
		{dActivity(9, 0, 1, ""), dTimer(9, 1), dChild(1, 0, 1, ""), dChild(2, 0, 1, "")},
		{dActivity(3, 0, 1, ""), dTimer(3, 1)}, // the number of the workflow itself
		{dUnset(1), dTimer(1, 1), dUnset(1), dTimer(1, 2)},
		slices.Repeat([]api.Decision{dTimer(5, 1), dUnset(5)}, 16),
		{dActivity(0, 0, 1, ""), dTimer(0, 1), dChild(0, 0, 1, "")},
		{dActivity(api.MaxFlow, api.MaxFlow, api.MaxTicks, string(long(api.MaxData))), dTimer(api.MaxFlow, api.MaxTicks), dChild(api.MaxFlow, api.MaxFlow, api.MaxTicks, string(long(api.MaxData)))},
	} {
		f := rich(t)
		if outs, e := decide(17, 1, 9, l...).on(f); e != api.OK || f.Len() != 22+len(l) || !sameOut(outs[len(outs)-1], oTask(f.Len(), 0)) {
			t.Errorf("%+v: %+v, %v", l, outs, e)
		}
		wantAlike(t, mustDecode(t, f.Encode()), f)
	}
	f := rich(t)
	do(t, f, worked(5, "", true, 9), works(6, 9), fire(flow.OLapse, 6, 0, 9), fire(flow.OTimer, 7, 0, 9), childEnds(9, 0, "", 9))
	want(t, f, decide(17, 1, 9, dActivity(1, 0, 1, ""), dActivity(2, 0, 1, ""), dTimer(1, 1), dChild(9, 0, 1, "")), api.OK,
		oWork(0, 27), oWork(0, 28), oTimer(29, 10), flow.Out{Kind: flow.OChild, Id: 9, N: 1, Ref: 30}, oTask(31, 0))
	f = rich(t)
	want(t, f, decide(17, 1, 9, dUnset(1), dUnset(2)), api.OK, oTask(24, 0))
	do(t, f, decides(24, 0, 9))
	want(t, f, decide(24, 0, 9, dUnset(1)), api.ErrBad, oTask(27, 1))
}

// TestP1303Late: only what closes is refused; Bad is ahead of it.
func TestP1303Late(t *testing.T) {
	for _, d := range []api.Decision{dComplete("x"), dFail("x"), dCancel(), dContinue("x")} {
		f := rich(t)
		want(t, f, decide(17, 1, 9, dTimer(5, 1), d), api.ErrLate, oTask(22, 2))
		wantNew(t, f, 21, api.Event{Kind: api.EFaulty, At: 9, Ref: 19, N: 2}, api.Event{Kind: api.EScheduled, At: 9, List: 2, N: 2})
		wantAlike(t, mustDecode(t, f.Encode()), f)
		want(t, f, decides(22, 2, 9), api.OK, oLate(22, 2, 19))
		if outs, e := decide(22, 2, 9, dTimer(5, 1), d).on(f); e != api.OK || f.Status() == api.SOpen || len(outs) != 2 {
			t.Errorf("%+v: %v, %v", d, outs, e)
		}
		f = rich(t)
		want(t, f, decide(17, 1, 9, dTimer(1, 1), d), api.ErrBad, oTask(22, 2))
		want(t, rich(t), decide(17, 1, 9, d, dTimer(5, 1)), api.ErrBad, oTask(22, 2))
	}
}

// TestP1303NotLate: that an activity begins is nothing that a decision must hear of.
func TestP1303NotLate(t *testing.T) {
	f := after(t, decides(2, 0, 5), decide(2, 0, 5, dActivity(1, 0, 1, "")), signal("", 5), decides(7, 0, 5), works(5, 5))
	g := f.Twin()
	want(t, f, decide(7, 0, 5), api.OK)
	want(t, g, decide(7, 0, 5, dComplete("")), api.OK, oClose(api.SCompleted, ""))
}

func TestP1303May(t *testing.T) {
	has := map[int]string{
		api.DActivity: "Id List N Data", api.DTimer: "Id N", api.DUnset: "Id", api.DChild: "Id List N Data",
		api.DComplete: "Data", api.DFail: "Data", api.DCancel: "", api.DContinue: "Data",
	}
	for kind := -2; kind < 12; kind++ {
		fields, is := has[kind]
		with := func(name string) bool { return is && slices.Contains(strings.Fields(fields), name) }
		start := api.Decision{Kind: kind}
		if with("N") {
			start.N = 1
		}
		wantMay(t, start, is)
		for _, v := range append(farOff(), 0, 1, 2, api.MaxFlow-1, api.MaxFlow, api.MaxFlow+1, 1<<32) {
			d, fits := start, v >= 0 && v <= api.MaxFlow
			d.Id = v
			wantMay(t, d, is && (v == 0 || fits && with("Id")))
			d = start
			d.List = v
			wantMay(t, d, is && (v == 0 || fits && with("List")))
			d = start
			d.N = v
			wantMay(t, d, is && (v == 0 && !with("N") || v >= 1 && v <= api.MaxTicks && with("N")))
		}
		for _, n := range []int{0, 1, api.MaxData, api.MaxData + 1, 1 << 20} {
			d := start
			d.Data = long(n)
			wantMay(t, d, is && (n == 0 || n <= api.MaxData && with("Data")))
		}
	}
	for _, kind := range farOff() {
		wantMay(t, api.Decision{Kind: kind}, false)
		wantMay(t, api.Decision{Kind: kind, N: 1}, false)
	}
	wantMay(t, dActivity(api.MaxFlow, api.MaxFlow, api.MaxTicks, string(long(api.MaxData))), true)
	wantMay(t, dChild(api.MaxFlow, api.MaxFlow, api.MaxTicks, string(long(api.MaxData))), true)
}

func wantMay(t *testing.T, d api.Decision, may bool) {
	t.Helper()
	if flow.May(d) != may {
		t.Errorf("May(%d, %d, %d, %d, %d bytes): %v", d.Kind, d.Id, d.List, d.N, len(d.Data), !may)
	}
}
