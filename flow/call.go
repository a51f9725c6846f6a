package flow

import "teasel/api"

const (
	mostTick = 1 << 40
	workTurn = -1 // asks Wants for an activity
)

// handed is what a call is handed; what it isn't is 0.
type handed struct {
	ref, turn, id, status int
	data                  []byte
	decisions             []api.Decision
	now                   int
}

// step is what a call asks and does by itself.
type step func(h handed) ([]Out, api.Errno)

func isBetween(v, lo, hi int) bool { return lo <= v && v <= hi }

// fits asks for the bounds that hold whatever a flow has seen.
func (h handed) fits() bool {
	return isBetween(h.id, 0, api.MaxFlow) && isBetween(h.now, 0, mostTick) && len(h.data) <= api.MaxData
}

// do asks what each call asks first. A Flow that New did not make has no status, and is closed like those that had one.
func (f *Flow) do(call step, h handed) ([]Out, api.Errno) {
	if !h.fits() || h.now < f.last().At {
		return nil, api.ErrArg
	}
	if f.Status() != api.SOpen {
		return nil, api.ErrClosed
	}
	return call(h)
}

// come adds what a decision task must hear of, and wakes.
func (f *Flow) come(now int, e api.Event) ([]Out, api.Errno) {
	if f.task.at == 0 {
		return f.lay(now, e, scheduled(f.list(), f.turn))
	}
	outs, err := f.lay(now, e)
	if err == api.OK {
		f.late = f.task.begun != 0
	}
	return outs, err
}

// anew adds what ends a task in vain, and schedules the next one.
func (f *Flow) anew(now int, e api.Event) ([]Out, api.Errno) {
	e.Ref = f.task.begun
	return f.lay(now, e, scheduled(f.list(), f.turn+1))
}

func (f *Flow) signal(h handed) ([]Out, api.Errno) {
	return f.come(h.now, api.Event{Kind: api.ESignal, Data: h.data})
}

func (f *Flow) cancel(h handed) ([]Out, api.Errno) {
	if f.asked {
		return nil, api.ErrUsed
	}
	return f.come(h.now, api.Event{Kind: api.ECancel})
}

func (f *Flow) terminate(h handed) ([]Out, api.Errno) {
	return f.lay(h.now, api.Event{Kind: api.ETerminated, Data: h.data})
}

func (f *Flow) beginTask(h handed) ([]Out, api.Errno) {
	if !f.taskAt(h.ref, h.turn).waits() {
		return nil, api.ErrStale
	}
	return f.lay(h.now, api.Event{Kind: api.EDecides, Ref: h.ref})
}

func (f *Flow) miss(h handed) ([]Out, api.Errno) {
	if f.taskAt(h.ref, h.turn).begun == 0 {
		return nil, api.ErrStale
	}
	return f.anew(h.now, api.Event{Kind: api.EMissed})
}

func (f *Flow) beginWork(h handed) ([]Out, api.Errno) {
	id, s := f.openAt(api.EActivity, h.ref)
	if !s.waits() {
		return nil, api.ErrStale
	}
	return f.lay(h.now, api.Event{Kind: api.EWorks, Ref: h.ref, Id: id})
}

func (f *Flow) worked(h handed) ([]Out, api.Errno) { return f.endWork(h, api.EWorked) }

func (f *Flow) broke(h handed) ([]Out, api.Errno) { return f.endWork(h, api.EBroke) }

func (f *Flow) lapse(h handed) ([]Out, api.Errno) { return f.endWork(h, api.ELapsed) }

func (f *Flow) endWork(h handed, kind int) ([]Out, api.Errno) {
	id, s := f.openAt(api.EActivity, h.ref)
	if s.begun == 0 || h.turn != 0 {
		return nil, api.ErrStale
	}
	return f.come(h.now, api.Event{Kind: kind, Ref: s.begun, Id: id, Data: h.data})
}

func (f *Flow) fire(h handed) ([]Out, api.Errno) {
	id, s := f.openAt(api.ETimer, h.ref)
	if s.at == 0 || h.turn != 0 {
		return nil, api.ErrStale
	}
	return f.come(h.now, api.Event{Kind: api.EFired, Ref: h.ref, Id: id})
}

func (f *Flow) endChild(h handed) ([]Out, api.Errno) {
	s := f.open[thing{api.EChild, h.id}]
	if s.at == 0 {
		return nil, api.ErrStale
	}
	if !isBetween(h.status, api.SNone, api.SContinued) {
		return nil, api.ErrArg
	}
	return f.come(h.now, api.Event{Kind: api.EChildEnds, Ref: s.at, Id: h.id, N: h.status, Data: h.data})
}
