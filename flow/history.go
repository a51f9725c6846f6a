package flow

import (
	"bytes"

	"teasel/api"
	"teasel/event"
)

// thing is what one event opens and later ones end: an activity, a timer, a child. There is one of a kind and an Id at a time.
type thing struct {
	kind, id int // of the event that opens it
}

// state is how far an open thing is, or the decision task.
type state struct {
	at    int // the place of the event that opened it; 0 of none
	begun int // the place of the one that began it; 0 till then
}

func (s state) waits() bool { return s.at != 0 && s.begun == 0 }

// last is a zero one of a Flow that New did not make.
func (f *Flow) last() api.Event {
	if len(f.events) == 0 {
		return api.Event{}
	}
	return f.events[len(f.events)-1]
}

// list is where decision tasks go.
func (f *Flow) list() int { return f.events[0].List }

// taskAt tells the decision task, if it is the one of that place and turn.
func (f *Flow) taskAt(ref, turn int) state {
	if ref != f.task.at || turn != f.turn {
		return state{}
	}
	return f.task
}

// openAt tells what was opened at a place by an event of that kind, if it is open yet.
func (f *Flow) openAt(kind, ref int) (int, state) {
	if !isBetween(ref, 1, len(f.events)) {
		return 0, state{}
	}
	e := f.events[ref-1]
	s := f.open[thing{kind, e.Id}]
	if s.at != ref {
		return 0, state{}
	}
	return e.Id, s
}

func scheduled(list, turn int) api.Event {
	return api.Event{Kind: api.EScheduled, List: list, N: turn}
}

// lay adds events, all of them or none, and tells what comes out of them.
func (f *Flow) lay(now int, l ...api.Event) ([]Out, api.Errno) {
	if len(f.events)+len(l) > api.MaxEvents {
		return nil, api.ErrFull
	}
	var outs []Out
	for _, e := range l {
		e.At, e.Data = now, bytes.Clone(e.Data)
		f.add(e)
		if o := f.out(e); o.Kind != 0 {
			outs = append(outs, o)
		}
	}
	return outs, api.OK
}

// add lays an event behind the others: what it opens, begins and ends.
func (f *Flow) add(e api.Event) {
	f.events = append(f.events, e)
	place := len(f.events)
	switch e.Kind {
	case api.EScheduled:
		f.task, f.late = state{at: place}, false
	case api.EDecides:
		f.task.begun = place
	case api.EDecided:
		f.task, f.turn = state{}, 0
	case api.EMissed, api.EFaulty:
		f.task = state{}
		f.turn++
	case api.EActivity, api.ETimer, api.EChild:
		f.open[thing{e.Kind, e.Id}] = state{at: place}
	case api.EWorks:
		f.open[thing{api.EActivity, e.Id}] = state{at: e.Ref, begun: place}
	case api.EWorked, api.EBroke, api.ELapsed:
		delete(f.open, thing{api.EActivity, e.Id})
	case api.EFired, api.EUnset:
		delete(f.open, thing{api.ETimer, e.Id})
	case api.EChildEnds:
		delete(f.open, thing{api.EChild, e.Id})
	case api.ECancel:
		f.asked = true
	case api.EContinued, api.ECompleted, api.EFailed, api.ECanceled, api.ETerminated:
		f.task, f.open = state{}, nil
	}
}

// out tells what comes out of the last event, which was just added; one without a Kind, if nothing does.
func (f *Flow) out(e api.Event) Out {
	place := len(f.events)
	switch e.Kind {
	case api.EScheduled:
		return Out{Kind: OTask, List: e.List, Ref: place, Turn: e.N}
	case api.EDecides:
		return Out{Kind: OLate, Ref: e.Ref, Turn: f.turn, At: e.At + f.events[0].N}
	case api.EActivity:
		return Out{Kind: OWork, List: e.List, Ref: place}
	case api.EWorks:
		return Out{Kind: OLapse, Ref: e.Ref, At: e.At + f.events[e.Ref-1].N}
	case api.ETimer:
		return Out{Kind: OTimer, Ref: place, At: e.At + e.N}
	case api.EChild:
		return Out{Kind: OChild, Id: e.Id, List: e.List, N: e.N, Data: bytes.Clone(e.Data), Ref: place}
	case api.EContinued:
		return Out{Kind: ONext, Data: bytes.Clone(e.Data)}
	case api.ECompleted, api.EFailed, api.ECanceled, api.ETerminated:
		return Out{Kind: OClose, N: event.Status(e), Data: bytes.Clone(e.Data)}
	}
	return Out{}
}
