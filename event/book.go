package event

import (
	"slices"

	"teasel/api"
)

// thing is what one event opens and later ones end: a decision task, an activity, a timer, a child.
type thing struct {
	kind, id int // of the event that opened it
}

// state is how far an open thing is: the kind of the last event of it.
type state struct {
	thing thing
	kind  int
}

// book is what the events so far say.
type book struct {
	count  int
	now    int // the last one's tick
	closed bool
	open   map[int]state      // by the place of the last event of each thing, where the next one's Ref leads
	used   map[thing]struct{} // the same things, for there is one of a kind and an Id at a time
}

func newBook() *book {
	return &book{open: map[int]state{}, used: map[thing]struct{}{}}
}

// opened leaves out a decision task's Id, for there is one task at a time, whatever its Id.
func opened(e api.Event) thing {
	if e.Kind == scheduled {
		return thing{kind: scheduled}
	}
	return thing{e.Kind, e.Id}
}

// misfit tells why an event cannot be the next one, in the order in which P1202 asks; nothing, if it can.
func (b *book) misfit(e api.Event) string {
	isFirst := b.count == 0
	switch {
	case !Right(e):
		return "event"
	case e.At < b.now:
		return "time"
	case isFirst != (e.Kind == started):
		return "first"
	case b.closed:
		return "closed"
	}
	return b.lacks(e)
}

// lacks tells what an event's kind asks for in vain.
func (b *book) lacks(e api.Event) (why string) {
	asked := 0
	switch e.Kind {
	case decides:
		asked = scheduled
	case decided, missed, faulty:
		asked = decides
	case works:
		asked = activity
	case worked, broke, lapsed:
		asked = works
	case fired, unset:
		asked = timer
	case childEnds:
		asked = child
	case scheduled, activity, timer, child:
		why = b.taken(opened(e))
		fallthrough
	default:
		if e.Ref != 0 {
			return "ref" // ahead of why, as P1202 has it
		}
		return why
	}
	if b.open[e.Ref].kind != asked {
		return "ref"
	}
	return ""
}

// taken tells the word for a thing that is open already.
func (b *book) taken(t thing) string {
	if _, is := b.used[t]; !is {
		return ""
	}
	if t.kind == scheduled {
		return "task"
	}
	return "id"
}

// add takes an event as it is: whether it fits is misfit's to tell.
func (b *book) add(e api.Event) {
	b.count++
	b.now, b.closed = e.At, Closes(e.Kind)
	t := b.open[e.Ref].thing
	delete(b.open, e.Ref)
	switch e.Kind {
	case scheduled, activity, timer, child:
		t = opened(e)
		b.used[t] = struct{}{}
		fallthrough
	case decides, works:
		b.open[b.count] = state{t, e.Kind}
	default:
		delete(b.used, t) // no thing at all, if the event has no Ref
	}
}

// ids tells those of what is open of a kind, rising.
func (b *book) ids(kind int) []int {
	var l []int
	for t := range b.used {
		if t.kind == kind {
			l = append(l, t.id)
		}
	}
	slices.Sort(l)
	return l
}
