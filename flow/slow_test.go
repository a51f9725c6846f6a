package flow_test

import (
	"slices"
	"testing"

	"teasel/api"
	"teasel/draws"
	"teasel/event"
	"teasel/flow"
)

// slow is a run as its history alone, gone through from its beginning for each question.
type slow struct {
	id int
	l  []api.Event
}

func (s *slow) at(place int) api.Event {
	if place < 1 || place > len(s.l) {
		return api.Event{}
	}
	return s.l[place-1]
}

// behind tells the place of the first event of one of these kinds that belongs to a place; 0 of none.
func (s *slow) behind(place int, kinds ...int) int {
	return 1 + slices.IndexFunc(s.l, func(e api.Event) bool { return e.Ref == place && slices.Contains(kinds, e.Kind) })
}

func (s *slow) status() int {
	switch s.at(len(s.l)).Kind {
	case api.EContinued:
		return api.SContinued
	case api.ECompleted:
		return api.SCompleted
	case api.EFailed:
		return api.SFailed
	case api.ECanceled:
		return api.SCanceled
	case api.ETerminated:
		return api.STerminated
	}
	return api.SOpen
}

// begun tells where a task or an activity was begun; 0, if it wasn't.
func (s *slow) begun(place int) int { return s.behind(place, api.EDecides, api.EWorks) }

func (s *slow) isOpen(place int) bool {
	if s.status() != api.SOpen {
		return false
	}
	begun := s.begun(place)
	switch s.at(place).Kind {
	case api.EScheduled:
		return begun == 0 || s.behind(begun, api.EDecided, api.EMissed, api.EFaulty) == 0
	case api.EActivity:
		return begun == 0 || s.behind(begun, api.EWorked, api.EBroke, api.ELapsed) == 0
	case api.ETimer:
		return s.behind(place, api.EFired, api.EUnset) == 0
	case api.EChild:
		return s.behind(place, api.EChildEnds) == 0
	}
	return false
}

// find tells where what is open of a kind and an Id was opened.
func (s *slow) find(kind, id int) int {
	for i, e := range s.l {
		if e.Kind == kind && e.Id == id && s.isOpen(i+1) {
			return i + 1
		}
	}
	return 0
}

// isOf tells whether what was opened at a place is of that kind, open, and as much begun.
func (s *slow) isOf(kind, place int, begun bool) bool {
	return s.at(place).Kind == kind && s.isOpen(place) && (s.begun(place) != 0) == begun
}

func (s *slow) isTask(c call, begun bool) bool {
	return s.isOf(api.EScheduled, c.ref, begun) && s.at(c.ref).N == c.turn
}

// turn is that of a task scheduled now.
func (s *slow) turn() int {
	turn := 0
	for _, e := range s.l {
		switch e.Kind {
		case api.EDecided:
			turn = 0
		case api.EMissed, api.EFaulty:
			turn++
		}
	}
	return turn
}

func comes(kind int) bool {
	return slices.Contains([]int{api.ESignal, api.ECancel, api.EWorked, api.EBroke, api.ELapsed, api.EFired, api.EChildEnds}, kind)
}

// late tells whether something came behind the place of an EDecides.
func (s *slow) late(begun int) bool {
	return slices.ContainsFunc(s.l[begun:], func(e api.Event) bool { return comes(e.Kind) })
}

func (s *slow) asked() bool {
	return slices.ContainsFunc(s.l, func(e api.Event) bool { return e.Kind == api.ECancel })
}

// may tells whether a decision may stand behind those that are done already.
func (s *slow) may(d api.Decision) bool {
	switch d.Kind {
	case api.DActivity:
		return flow.May(d) && s.find(api.EActivity, d.Id) == 0
	case api.DTimer:
		return flow.May(d) && s.find(api.ETimer, d.Id) == 0
	case api.DChild:
		return flow.May(d) && s.find(api.EChild, d.Id) == 0 && d.Id != s.id
	case api.DUnset:
		return flow.May(d) && s.find(api.ETimer, d.Id) != 0
	case api.DCancel:
		return flow.May(d) && s.asked()
	}
	return flow.May(d)
}

// made is what a call has made so far.
type made struct {
	s    *slow
	now  int
	outs []flow.Out
}

func (m *made) event(e api.Event) int {
	e.At = m.now
	m.s.l = append(m.s.l, e)
	return len(m.s.l)
}

func (m *made) out(o flow.Out) { m.outs = append(m.outs, o) }

func (m *made) schedule() {
	turn := m.s.turn()
	place := m.event(api.Event{Kind: api.EScheduled, List: m.s.at(1).List, N: turn})
	m.out(flow.Out{Kind: flow.OTask, List: m.s.at(1).List, Ref: place, Turn: turn})
}

func (m *made) come(e api.Event) api.Errno {
	waits := m.s.find(api.EScheduled, 0) != 0
	m.event(e)
	if !waits {
		m.schedule()
	}
	return api.OK
}

func (m *made) close(e api.Event) {
	m.event(e)
	o := flow.Out{Kind: flow.OClose, N: m.s.status(), Data: e.Data}
	if e.Kind == api.EContinued {
		o = flow.Out{Kind: flow.ONext, Data: e.Data}
	}
	m.out(o)
}

// decision does one that may be.
func (m *made) decision(d api.Decision) {
	place := len(m.s.l) + 1
	switch d.Kind {
	case api.DActivity:
		m.event(api.Event{Kind: api.EActivity, Id: d.Id, List: d.List, N: d.N, Data: d.Data})
		m.out(flow.Out{Kind: flow.OWork, List: d.List, Ref: place})
	case api.DTimer:
		m.event(api.Event{Kind: api.ETimer, Id: d.Id, N: d.N})
		m.out(flow.Out{Kind: flow.OTimer, Ref: place, At: m.now + d.N})
	case api.DUnset:
		m.event(api.Event{Kind: api.EUnset, Id: d.Id, Ref: m.s.find(api.ETimer, d.Id)})
	case api.DChild:
		m.event(api.Event{Kind: api.EChild, Id: d.Id, List: d.List, N: d.N, Data: d.Data})
		m.out(flow.Out{Kind: flow.OChild, Id: d.Id, List: d.List, N: d.N, Data: d.Data, Ref: place})
	case api.DComplete:
		m.close(api.Event{Kind: api.ECompleted, Data: d.Data})
	case api.DFail:
		m.close(api.Event{Kind: api.EFailed, Data: d.Data})
	case api.DCancel:
		m.close(api.Event{Kind: api.ECanceled})
	case api.DContinue:
		m.close(api.Event{Kind: api.EContinued, Data: d.Data})
	}
}

func (m *made) refuse(n, begun int, e api.Errno) api.Errno {
	m.event(api.Event{Kind: api.EFaulty, Ref: begun, N: n})
	m.schedule()
	return e
}

func (m *made) decide(c call) api.Errno {
	begun := m.s.begun(c.ref)
	try := &made{s: &slow{m.s.id, slices.Clone(m.s.l)}, now: m.now}
	late := m.s.late(begun)
	try.event(api.Event{Kind: api.EDecided, Ref: begun})
	bad := len(c.l) > 32
	for _, d := range c.l {
		if bad = bad || try.s.status() != api.SOpen || !try.s.may(d); bad {
			break
		}
		try.decision(d)
	}
	switch {
	case bad:
		return m.refuse(1, begun, api.ErrBad)
	case late && try.s.status() != api.SOpen:
		return m.refuse(2, begun, api.ErrLate)
	case late:
		try.schedule()
	}
	m.s.l, m.outs = try.s.l, try.outs
	return api.OK
}

func (m *made) fire(c call) api.Errno {
	of := m.s.at(c.ref)
	switch {
	case c.kind == flow.OLate && m.s.isTask(c, true):
		m.event(api.Event{Kind: api.EMissed, Ref: m.s.begun(c.ref)})
		m.schedule()
		return api.OK
	case c.kind == flow.OLapse && c.turn == 0 && m.s.isOf(api.EActivity, c.ref, true):
		return m.come(api.Event{Kind: api.ELapsed, Ref: m.s.begun(c.ref), Id: of.Id})
	case c.kind == flow.OTimer && c.turn == 0 && m.s.isOf(api.ETimer, c.ref, false):
		return m.come(api.Event{Kind: api.EFired, Ref: c.ref, Id: of.Id})
	}
	return api.ErrStale
}

// do does a call that has room.
func (m *made) do(c call) api.Errno {
	of := m.s.at(c.ref)
	switch c.name {
	case "signal":
		return m.come(api.Event{Kind: api.ESignal, Data: c.data})
	case "cancel":
		if m.s.asked() {
			return api.ErrUsed
		}
		return m.come(api.Event{Kind: api.ECancel})
	case "terminate":
		m.close(api.Event{Kind: api.ETerminated, Data: c.data})
		return api.OK
	case "decides":
		if !m.s.isTask(c, false) {
			return api.ErrStale
		}
		m.event(api.Event{Kind: api.EDecides, Ref: c.ref})
		m.out(flow.Out{Kind: flow.OLate, Ref: c.ref, Turn: c.turn, At: m.now + m.s.at(1).N})
		return api.OK
	case "decide":
		if !m.s.isTask(c, true) {
			return api.ErrStale
		}
		return m.decide(c)
	case "works":
		if !m.s.isOf(api.EActivity, c.ref, false) {
			return api.ErrStale
		}
		m.event(api.Event{Kind: api.EWorks, Ref: c.ref, Id: of.Id})
		m.out(flow.Out{Kind: flow.OLapse, Ref: c.ref, At: m.now + of.N})
		return api.OK
	case "worked":
		if !m.s.isOf(api.EActivity, c.ref, true) {
			return api.ErrStale
		}
		kind := map[bool]int{true: api.EWorked, false: api.EBroke}[c.good]
		return m.come(api.Event{Kind: kind, Ref: m.s.begun(c.ref), Id: of.Id, Data: c.data})
	case "childends":
		place := m.s.find(api.EChild, c.id)
		if place == 0 {
			return api.ErrStale
		}
		if c.status < 0 || c.status > 6 {
			return api.ErrArg
		}
		return m.come(api.Event{Kind: api.EChildEnds, Ref: place, Id: c.id, N: c.status, Data: c.data})
	}
	return m.fire(c)
}

// on is what the run answers to a call.
func (s *slow) on(c call) ([]flow.Out, api.Errno) {
	kindIs := c.name != "fire" || c.kind >= flow.OLate && c.kind <= flow.OTimer
	if !kindIs || c.now < s.at(len(s.l)).At || c.now > mostTick || len(c.data) > 4096 || c.id < 0 || c.id > 1<<20 {
		return nil, api.ErrArg
	}
	if s.status() != api.SOpen {
		return nil, api.ErrClosed
	}
	m := &made{s: &slow{s.id, slices.Clone(s.l)}, now: c.now}
	e := m.do(c)
	if len(m.s.l) > 4096 {
		return nil, api.ErrFull
	}
	s.l = m.s.l
	return m.outs, e
}

func (s *slow) wants(ref, turn int) bool {
	return turn == -1 && s.isOf(api.EActivity, ref, false) || s.isTask(call{ref: ref, turn: turn}, false)
}

// pick draws a place, mostly one of what is open of that kind.
func (s *slow) pick(d *draws.Source, kind int) int {
	if d.Below(12) == 0 {
		return d.Between(-1, len(s.l)+1)
	}
	var l []int
	for i := range s.l {
		if s.l[i].Kind == kind && (s.isOpen(i+1) || d.Below(40) == 0) {
			l = append(l, i+1)
		}
	}
	if len(l) == 0 {
		return 0
	}
	return l[d.Below(len(l))]
}

func drawnData(d *draws.Source) []byte {
	if d.Below(60) == 0 {
		return long(4096 + d.Below(2))
	}
	return long(d.Below(4))
}

// drawnDecision is mostly one that may be, of few Ids.
func drawnDecision(d *draws.Source) api.Decision {
	x := api.Decision{Kind: d.Between(1, 4)}
	if d.Below(12) == 0 {
		x.Kind = d.Between(0, 9)
	}
	if x.Kind <= api.DChild {
		x.Id = d.Below(8)
	}
	if x.Kind == api.DActivity || x.Kind == api.DTimer || x.Kind == api.DChild {
		x.N = d.Between(1, 9)
	}
	if x.Kind == api.DActivity || x.Kind == api.DChild {
		x.List, x.Data = d.Below(3), drawnData(d)
	}
	if x.Kind >= api.DComplete && x.Kind != api.DCancel {
		x.Data = drawnData(d)
	}
	if d.Below(60) == 0 {
		x.N = d.Between(-1, 1)
	}
	return x
}

// drawnCall is mostly one that is not refused.
func drawnCall(d *draws.Source, s *slow) call {
	c := call{now: s.at(len(s.l)).At + d.Below(6)/5}
	if d.Below(60) == 0 {
		c.now += d.Between(-2, 2)
	}
	switch d.Below(24) {
	case 0, 1:
		c.name, c.data = "signal", drawnData(d)
	case 2:
		c.name = "cancel"
	case 3:
		c.name = "signal"
		if d.Below(20) == 0 {
			c.name, c.data = "terminate", drawnData(d)
		}
	case 4, 5, 6, 7, 8:
		c.name, c.ref = "decides", s.pick(d, api.EScheduled)
		c.turn = s.at(c.ref).N
	case 9, 10, 11, 12, 13:
		c.name, c.ref = "decide", s.pick(d, api.EScheduled)
		c.turn = s.at(c.ref).N
		for range d.Below(5) {
			c.l = append(c.l, drawnDecision(d))
		}
	case 14, 15, 16:
		c.name, c.ref = "works", s.pick(d, api.EActivity)
	case 17, 18:
		c.name, c.ref, c.data, c.good = "worked", s.pick(d, api.EActivity), drawnData(d), d.Below(2) == 0
	case 19:
		c.name, c.id, c.status, c.data = "childends", s.at(s.pick(d, api.EChild)).Id, d.Below(60)%8, drawnData(d)
	default:
		c.name, c.kind = "fire", d.Between(flow.OLate, flow.OTimer)
		c.ref = s.pick(d, map[int]int{flow.OLate: api.EScheduled, flow.OLapse: api.EActivity, flow.OTimer: api.ETimer}[c.kind])
		if c.kind == flow.OLate {
			c.turn = s.at(c.ref).N
		}
		c.kind += d.Below(50) / 49
	}
	if d.Below(60) == 0 {
		c.turn += d.Between(-1, 1)
	}
	return c
}

// wantAsSlow makes a call of both, and asks for the same.
func wantAsSlow(t *testing.T, f *flow.Flow, s *slow, c call) api.Errno {
	t.Helper()
	n := len(s.l)
	outs, e := s.on(c)
	o, err := c.on(f)
	if err != e || !sameOuts(o, outs) || f.Len() != len(s.l) || !sameEvents(f.Events(n+1), s.l[n:]) {
		t.Fatalf("%+v behind %d events: %+v, %v, %+v; want %+v, %v, %+v", c, n, o, err, f.Events(n+1), outs, e, s.l[n:])
	}
	return e
}

func wantSeenAsSlow(t *testing.T, f *flow.Flow, s *slow) {
	t.Helper()
	if !sameEvents(f.Events(1), s.l) || event.Check(s.l...) != nil || f.Status() != s.status() {
		t.Fatalf("%d, %+v; want %d, %+v", f.Status(), f.Events(1), s.status(), s.l)
	}
	for ref := range len(s.l) + 2 {
		for turn := -2; turn < 4; turn++ {
			if f.Wants(ref, turn) != s.wants(ref, turn) {
				t.Fatalf("Wants(%d, %d): %v of %+v", ref, turn, f.Wants(ref, turn), s.l)
			}
		}
	}
}

func beginSlow(t *testing.T) (*flow.Flow, *slow) {
	t.Helper()
	f := begin(t)
	return f, &slow{3, f.Events(1)}
}

// TestP1306AgainstSlow: rows of calls, in which the flow is now and then its twin, or what was decoded of it.
func TestP1306AgainstSlow(t *testing.T) {
	seen := map[string]int{}
	for seed := range uint64(400) {
		d := draws.New(seed)
		f, s := beginSlow(t)
		for range 120 {
			c := drawnCall(d, s)
			e := wantAsSlow(t, f, s, c)
			seen[c.name+" "+e.Error()]++
			if s.status() != api.SOpen && d.Below(4) == 0 {
				break
			}
			switch d.Below(20) {
			case 0:
				f = mustDecode(t, f.Encode())
			case 1:
				twin := f.Twin()
				c := drawnCall(d, s)
				c.on(f)
				f = twin
			}
		}
		wantSeenAsSlow(t, f, s)
		for _, e := range s.l {
			seen[event.Name(e.Kind)]++
		}
		if t.Failed() {
			t.Fatalf("with seed %d", seed)
		}
	}
	wantSeen(t, seen)
}

// wantSeen asks that of each kind enough was drawn.
func wantSeen(t *testing.T, seen map[string]int) {
	t.Helper()
	for kind := api.EStarted; kind <= api.ETerminated; kind++ {
		if seen[event.Name(kind)] < 3 {
			t.Errorf("hardly drawn: %s (%d)", event.Name(kind), seen[event.Name(kind)])
		}
	}
	for _, text := range []string{
		"signal ok", "signal arg", "signal closed", "cancel ok", "cancel used", "decides ok", "decides stale",
		"decide ok", "decide stale", "decide bad", "decide late", "works ok", "works stale", "worked ok", "worked stale",
		"fire ok", "fire stale", "fire arg", "childends ok", "childends stale", "childends arg",
	} {
		if seen[text] < 10 {
			t.Errorf("hardly drawn: %s (%d)", text, seen[text])
		}
	}
}

// TestP1306FullAgainstSlow: rows of calls where there is hardly any room.
func TestP1306FullAgainstSlow(t *testing.T) {
	full := 0
	for seed := range uint64(40) {
		d := draws.New(seed)
		f, _ := stuffed(t, after(t, decides(2, 0, 5), decide(2, 0, 5, dTimer(1, 1), dActivity(1, 0, 1, ""), dChild(1, 1, 1, ""))), api.MaxEvents-30, call{})
		s := &slow{3, f.Events(1)}
		for range 80 {
			if c := drawnCall(d, s); wantAsSlow(t, f, s, c) == api.ErrFull {
				full++
			}
		}
		if s.status() == api.SOpen {
			wantAlike(t, mustDecode(t, f.Encode()), f)
		}
		if t.Failed() {
			t.Fatalf("with seed %d", seed)
		}
	}
	if full < 100 {
		t.Errorf("%d were full", full)
	}
}
