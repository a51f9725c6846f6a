package flow

import (
	"teasel/api"
	"teasel/event"
)

// Why decisions were refused: N of EFaulty.
const (
	whyBad  = 1
	whyLate = 2
)

// made are the kinds of events that decisions come to.
var made = [...]int{
	api.DActivity: api.EActivity,
	api.DTimer:    api.ETimer,
	api.DUnset:    api.EUnset,
	api.DChild:    api.EChild,
	api.DComplete: api.ECompleted,
	api.DFail:     api.EFailed,
	api.DCancel:   api.ECanceled,
	api.DContinue: api.EContinued,
}

// May tells whether a decision may be, whatever flow it is for: what its kind has is asked and taken out, and nothing may be left.
func May(d api.Decision) bool {
	if !isBetween(d.Id, 0, api.MaxFlow) || !isBetween(d.List, 0, api.MaxFlow) || len(d.Data) > api.MaxData {
		return false
	}
	switch d.Kind {
	case api.DActivity, api.DChild:
		d.List, d.Data = 0, nil
		fallthrough
	case api.DTimer:
		if !isBetween(d.N, 1, api.MaxTicks) {
			return false
		}
		d.N = 0
		fallthrough
	case api.DUnset:
		d.Id = 0
	case api.DComplete, api.DFail, api.DContinue:
		d.Data = nil
	case api.DCancel:
	default:
		return false
	}
	return d.Id == 0 && d.List == 0 && d.N == 0 && len(d.Data) == 0
}

func (f *Flow) decide(h handed) ([]Out, api.Errno) {
	if f.taskAt(h.ref, h.turn).begun == 0 {
		return nil, api.ErrStale
	}
	d := newDraft(f)
	if !d.takesAll(h.decisions) {
		return f.refuse(h.now, whyBad, api.ErrBad)
	}
	if f.late && d.closes() {
		return f.refuse(h.now, whyLate, api.ErrLate)
	}
	if f.late {
		d.events = append(d.events, scheduled(f.list(), 0))
	}
	return f.lay(h.now, d.events...)
}

// refuse ends the task in vain, and answers that error beside what comes out of it.
func (f *Flow) refuse(now, why int, e api.Errno) ([]Out, api.Errno) {
	outs, full := f.anew(now, api.Event{Kind: api.EFaulty, N: why})
	if full != api.OK {
		return nil, full
	}
	return outs, e
}

// draft is what a task's decisions come to, so far.
type draft struct {
	flow   *Flow
	events []api.Event
	places map[thing]int // of what they open; 0 of what they end
}

func newDraft(f *Flow) *draft {
	decided := api.Event{Kind: api.EDecided, Ref: f.task.begun}
	return &draft{flow: f, events: []api.Event{decided}, places: map[thing]int{}}
}

// closes tells whether the last decision does: none may stand behind it.
func (d *draft) closes() bool { return event.Closes(d.events[len(d.events)-1].Kind) }

// place tells where what is open behind the decisions so far was opened; 0, if it isn't.
func (d *draft) place(t thing) int {
	if at, is := d.places[t]; is {
		return at
	}
	return d.flow.open[t].at
}

// takesAll tells whether decisions may stand as they do.
func (d *draft) takesAll(l []api.Decision) bool {
	if len(l) > api.MaxList {
		return false
	}
	for _, x := range l {
		if d.closes() || !May(x) || !d.takes(x) {
			return false
		}
	}
	return true
}

// takes adds what a decision comes to, if it may stand behind those so far. As it has no field that its kind has not, its event is made of all of them.
func (d *draft) takes(x api.Decision) bool {
	e := api.Event{Kind: made[x.Kind], Id: x.Id, List: x.List, N: x.N, Data: x.Data}
	switch x.Kind {
	case api.DUnset:
		t := thing{api.ETimer, x.Id}
		e.Ref = d.place(t)
		if e.Ref == 0 {
			return false
		}
		d.places[t] = 0
	case api.DCancel:
		if !d.flow.asked {
			return false
		}
	case api.DChild:
		if x.Id == d.flow.id {
			return false
		}
		fallthrough
	case api.DActivity, api.DTimer:
		t := thing{e.Kind, x.Id}
		if d.place(t) != 0 {
			return false
		}
		d.places[t] = len(d.flow.events) + len(d.events) + 1
	}
	d.events = append(d.events, e)
	return true
}
