package flow

import (
	"errors"

	"teasel/api"
	"teasel/codec"
	"teasel/event"
)

// mostText is more than the bytes of any history: beside its Data an event takes less than 64.
const mostText = api.MaxEvents * (api.MaxData + 64)

// Encode lays what a flow is called and its history, for all else follows from these.
func (f *Flow) Encode() []byte {
	w := codec.NewWriter().Int(int64(f.id)).Int(int64(f.run))
	return w.Bytes(event.Encode(f.events...)).Done()
}

// Decode reads what Encode laid.
func Decode(b []byte) (*Flow, error) {
	r := codec.NewReader(b)
	id := r.Between("id", 0, api.MaxFlow)
	run := r.Between("run", 1, api.MaxTicks)
	text := r.Bytes("events", mostText)
	if err := r.End(); err != nil {
		return nil, err
	}
	ahead := len(b) - len(text)
	l, err := event.Decode(text)
	var x *codec.Fault
	if errors.As(err, &x) {
		return nil, &codec.Fault{Err: x.Err, At: ahead + x.At, What: x.What}
	}
	f := remake(id, run, l)
	if f == nil {
		return nil, &codec.Fault{Err: api.ErrForm, At: ahead, What: "events"}
	}
	return f, nil
}

// remake makes the calls again that made a history; nil, if no calls make it.
func remake(id, run int, l []api.Event) *Flow {
	if len(l) == 0 {
		return nil
	}
	f, _, e := New(id, run, l[0].List, l[0].N, l[0].Data, l[0].At)
	if e != api.OK {
		return nil
	}
	for f.Len() < len(l) {
		was := f.Len()
		f.again(l[was:])
		if f.Len() == was {
			return nil
		}
	}
	if !event.Prefix(f.events, l) {
		return nil
	}
	return f
}

// again makes the call whose first event may be l's first one. What it came to is remake's to hold against l.
func (f *Flow) again(l []api.Event) {
	e := l[0]
	switch e.Kind {
	case api.ESignal:
		f.Signal(e.Data, e.At)
	case api.ECancel:
		f.Cancel(e.At)
	case api.ETerminated:
		f.Terminate(e.Data, e.At)
	case api.EDecides:
		f.Decides(f.task.at, f.turn, e.At)
	case api.EDecided:
		f.Decide(f.task.at, f.turn, decisions(l[1:]), e.At)
	case api.EFaulty:
		f.Decide(f.task.at, f.turn, refused(e.N), e.At)
	case api.EMissed:
		f.Fire(OLate, f.task.at, f.turn, e.At)
	case api.EWorks:
		f.Works(e.Ref, e.At)
	case api.EWorked, api.EBroke:
		f.Worked(f.placeOf(api.EActivity, e.Id), e.Data, e.Kind == api.EWorked, e.At)
	case api.ELapsed:
		f.Fire(OLapse, f.placeOf(api.EActivity, e.Id), 0, e.At)
	case api.EFired:
		f.Fire(OTimer, f.placeOf(api.ETimer, e.Id), 0, e.At)
	case api.EChildEnds:
		f.ChildEnds(e.Id, e.N, e.Data, e.At)
	}
}

// placeOf tells where what is open was opened.
func (f *Flow) placeOf(kind, id int) int { return f.open[thing{kind, id}].at }

// decisions are those that the events at l's front come from: only a call of Decide makes such events.
func decisions(l []api.Event) []api.Decision {
	var all []api.Decision
	for _, e := range l {
		kind := decisionKind(e.Kind)
		if kind == 0 {
			break
		}
		all = append(all, api.Decision{Kind: kind, Id: e.Id, List: e.List, N: e.N, Data: e.Data})
	}
	return all
}

// decisionKind tells the kind of the decisions that come to events of that kind; 0 of none.
func decisionKind(kind int) int {
	for d, k := range made {
		if k == kind {
			return d
		}
	}
	return 0
}

// refused are decisions that are refused for that, if any are now.
func refused(why int) []api.Decision {
	if why == whyLate {
		return []api.Decision{{Kind: api.DFail}}
	}
	return []api.Decision{{}}
}
