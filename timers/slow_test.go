package timers_test

import (
	"slices"
	"testing"

	"teasel/draws"
	"teasel/timers"
)

// slowHeap has its items as they came.
type slowHeap struct{ items []timers.Item }

func (s *slowHeap) add(i timers.Item) bool {
	if slices.Contains(s.items, i) {
		return false
	}
	s.items = append(s.items, i)
	return true
}

func (s *slowHeap) drop(out func(timers.Item) bool) int {
	had := len(s.items)
	s.items = slices.DeleteFunc(s.items, out)
	return had - len(s.items)
}

func (s *slowHeap) remove(i timers.Item) bool {
	return s.drop(func(other timers.Item) bool { return other == i }) == 1
}

func (s *slowHeap) list() []timers.Item {
	return slices.SortedFunc(slices.Values(s.items), compareSlowly)
}

func (s *slowHeap) take(now int) (timers.Item, bool) {
	l := s.list()
	if len(l) == 0 || l[0].At > now {
		return timers.Item{}, false
	}
	return l[0], s.remove(l[0])
}

// drawItem draws each field from so few that items often come again.
func drawItem(s *draws.Source, width int) timers.Item {
	return timers.Item{
		At: s.Between(-width, width), Flow: s.Below(width), Run: s.Below(2), Ref: s.Below(width), Turn: s.Below(2), Kind: s.Below(2),
	}
}

// step makes one drawn call of both.
func step(t *testing.T, s *draws.Source, h *timers.Heap, slow *slowHeap, width int) {
	switch s.Below(16) {
	case 0:
		flow, run := s.Below(width), s.Below(2)
		n := slow.drop(func(i timers.Item) bool { return i.Flow == flow && i.Run == run })
		wantDrop(t, h, flow, run, n)
	case 1, 2:
		i := drawItem(s, width)
		wantRemove(t, h, i, slow.remove(i))
	case 3, 4:
		if l := slow.items; len(l) > 0 {
			i := l[s.Below(len(l))]
			wantRemove(t, h, i, slow.remove(i))
		}
	case 5, 6:
		now := s.Between(-width-1, width)
		i, is := slow.take(now)
		wantTake(t, h, now, i, is)
	default:
		i := drawItem(s, width)
		wantAdd(t, h, i, slow.add(i))
	}
}

func TestP1502AgainstSlowHeap(t *testing.T) {
	for seed := range uint64(120) {
		s := draws.New(seed)
		width := s.Between(1, 5)
		h, slow := timers.New(), &slowHeap{}
		for range 300 {
			step(t, s, h, slow, width)
			wantItems(t, h, slow.list()...)
		}
		for _, i := range slow.list() {
			wantTake(t, h, i.At, i, true)
		}
		wantItems(t, h)
		if t.Failed() {
			t.Fatalf("with seed %d", seed)
		}
	}
}

// TestP3Alike: the same calls answer the same, in whatever order a map tells what is dropped.
func TestP3Alike(t *testing.T) {
	for seed := range uint64(20) {
		var told [2][]timers.Item
		for k := range told {
			s := draws.New(seed)
			h := timers.New()
			for range 300 {
				h.Add(drawItem(s, 5))
			}
			h.Drop(0, 0)
			h.Drop(3, 1)
			for i, is := h.Take(9); is; i, is = h.Take(9) {
				told[k] = append(told[k], i)
			}
		}
		if !slices.Equal(told[0], told[1]) || !slices.IsSortedFunc(told[0], compareSlowly) || len(told[0]) < 100 {
			t.Fatalf("seed %d: %v and %v", seed, told[0], told[1])
		}
	}
}
