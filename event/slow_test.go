package event_test

import (
	"errors"
	"slices"
	"testing"

	"teasel/api"
	"teasel/draws"
	"teasel/event"
)

// slow is a history that is gone through from its beginning for each question.
type slow []api.Event

// at tells the event at a place, from 1 on.
func (s slow) at(place int) api.Event {
	if place < 1 || place > len(s) {
		return api.Event{}
	}
	return s[place-1]
}

// has tells whether there is an event of one of these kinds that belongs to a place.
func (s slow) has(place int, kinds ...int) bool {
	return slices.ContainsFunc(s, func(e api.Event) bool { return e.Ref == place && slices.Contains(kinds, e.Kind) })
}

// last tells the place of the last event of a kind.
func (s slow) last(kind int) int {
	for place := len(s); place > 0; place-- {
		if s.at(place).Kind == kind {
			return place
		}
	}
	return 0
}

// isOpen tells whether what was opened at a place is open.
func (s slow) isOpen(place int) bool {
	switch s.at(place).Kind {
	case api.EActivity:
		for i, e := range s {
			if e.Kind == api.EWorks && e.Ref == place {
				return !s.has(i+1, api.EWorked, api.EBroke, api.ELapsed)
			}
		}
		return true
	case api.ETimer:
		return !s.has(place, api.EFired, api.EUnset)
	case api.EChild:
		return !s.has(place, api.EChildEnds)
	}
	return false
}

func (s slow) fitsRef(e api.Event) bool {
	of := s.at(e.Ref)
	switch e.Kind {
	case api.EDecides:
		return e.Ref > 0 && e.Ref == s.last(api.EScheduled) && !s.has(e.Ref, api.EDecides)
	case api.EDecided, api.EMissed, api.EFaulty:
		return e.Ref > 0 && e.Ref == s.last(api.EDecides) && !s.has(e.Ref, api.EDecided, api.EMissed, api.EFaulty)
	case api.EWorks:
		return of.Kind == api.EActivity && s.isOpen(e.Ref) && !s.has(e.Ref, api.EWorks)
	case api.EWorked, api.EBroke, api.ELapsed:
		return of.Kind == api.EWorks && s.isOpen(of.Ref)
	case api.EFired, api.EUnset:
		return of.Kind == api.ETimer && s.isOpen(e.Ref)
	case api.EChildEnds:
		return of.Kind == api.EChild && s.isOpen(e.Ref)
	}
	return e.Ref == 0
}

// fitsTask: the last task, if there is one, must be ended.
func (s slow) fitsTask(e api.Event) bool {
	if last := s.last(api.EScheduled); e.Kind == api.EScheduled && last > 0 {
		begun := s.last(api.EDecides)
		return begun > last && s.has(begun, api.EDecided, api.EMissed, api.EFaulty)
	}
	return true
}

func (s slow) fitsId(e api.Event) bool {
	opens := e.Kind == api.EActivity || e.Kind == api.ETimer || e.Kind == api.EChild
	return !opens || !slices.Contains(s.ids(e.Kind), e.Id)
}

func (s slow) ids(kind int) []int {
	var l []int
	for i, e := range s {
		if e.Kind == kind && s.isOpen(i+1) {
			l = append(l, e.Id)
		}
	}
	slices.Sort(l)
	return l
}

// why tells of an event that is Right why it can't be the next one.
func (s slow) why(e api.Event) string {
	closes := func(e api.Event) bool { return e.Kind >= api.EContinued }
	switch {
	case e.At < s.at(len(s)).At:
		return "time"
	case (len(s) == 0) != (e.Kind == api.EStarted):
		return "first"
	case slices.ContainsFunc(s, closes):
		return "closed"
	case !s.fitsRef(e):
		return "ref"
	case !s.fitsTask(e):
		return "task"
	case !s.fitsId(e):
		return "id"
	}
	return ""
}

// whyOf is Check's answer, if it is about the last one of l.
func whyOf(t *testing.T, l []api.Event) string {
	t.Helper()
	err := event.Check(l...)
	if err == nil {
		return ""
	}
	var b *event.Broken
	if !errors.As(err, &b) || b.At != len(l) {
		t.Fatalf("Check of %d events: %v", len(l), err)
	}
	return b.Why
}

func wantAsSlow(t *testing.T, s slow, e api.Event) {
	t.Helper()
	if why := whyOf(t, append(slices.Clip(s), e)); why != s.why(e) {
		t.Fatalf("%+v behind %d events: %q; want %q", e, len(s), why, s.why(e))
	}
}

// TestP1202EachBehindEach: behind each beginning of full each kind with each Ref and some Ids.
func TestP1202EachBehindEach(t *testing.T) {
	for n := range len(full()) + 1 {
		s := slow(full()[:n])
		for kind := 1; kind <= lastKind; kind++ {
			for place := range n + 3 {
				for _, id := range []int{0, 2, 6, 7, 8} {
					wantAsSlow(t, s, api.Event{Kind: kind, At: s.at(n).At, Ref: place, Id: id})
				}
				wantAsSlow(t, s, api.Event{Kind: kind, At: max(0, s.at(n).At-1), Ref: place})
			}
		}
	}
}

// drawnEvent is often one that fits: half of all Refs are those of the kind that is asked for.
func drawnEvent(d *draws.Source, s slow) api.Event {
	e := api.Event{Kind: d.Between(2, api.EChildEnds), At: s.at(len(s)).At, Id: d.Below(4)}
	if d.Below(20) == 0 {
		e.At = max(0, e.At+d.Between(-2, 3))
	}
	if d.Below(200) == 0 {
		e.Kind = d.Between(1, lastKind)
	}
	if len(s) == 0 && d.Below(4) > 0 {
		e.Kind = api.EStarted
	}
	if d.Below(4) == 0 {
		e.Ref = d.Below(len(s) + 2)
		return e
	}
	for place := len(s); place > 0; place-- {
		e.Ref = place
		if s.fitsRef(e) && d.Below(2) == 0 {
			return e
		}
	}
	e.Ref = 0
	return e
}

func TestP1202AgainstSlow(t *testing.T) {
	kinds := map[string]int{}
	for seed := range uint64(300) {
		d := draws.New(seed)
		var s slow
		for range 150 {
			e := drawnEvent(d, s)
			wantAsSlow(t, s, e)
			kinds[s.why(e)+" "+event.Name(e.Kind)]++
			if s.why(e) == "" {
				s = append(s, e)
			}
		}
		wantOpen(t, s, s.ids(api.EActivity), s.ids(api.ETimer), s.ids(api.EChild))
	}
	for kind := 1; kind <= lastKind; kind++ {
		if kinds[" "+event.Name(kind)] == 0 {
			t.Errorf("none that fits was drawn: %s", event.Name(kind))
		}
	}
	for _, text := range []string{"task scheduled", "id activity", "id timer", "id child", "first started", "ref works", "closed signal"} {
		if kinds[text] == 0 {
			t.Errorf("none was drawn: %s", text)
		}
	}
}
