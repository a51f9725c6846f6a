package timers

import (
	"testing"

	"teasel/draws"
)

// TestGoneIsNotHeld: nothing is kept of an item that is no more, nor of a run without items.
func TestGoneIsNotHeld(t *testing.T) {
	h := New()
	for i := range 40 {
		h.Add(Item{At: i * 7 % 40, Flow: i % 4, Run: i % 3})
	}
	h.Take(40)
	h.Drop(2, 1)
	h.Drop(9, 9)
	h.Remove(Item{At: 7, Flow: 1, Run: 1})
	for place, x := range h.all[:cap(h.all)] {
		if is := x != nil; is != (place < h.Len()) {
			t.Errorf("place %d of %d: %v", place, h.Len(), x)
		}
	}
	for _, is := h.Take(39); is; _, is = h.Take(39) {
	}
	h.find(Item{Flow: 3})
	if len(h.runs) != 0 || h.Len() != 0 {
		t.Errorf("runs: %v", h.runs)
	}
}

// TestHeapOrder: each one knows its place and stands behind one that is less, and each run knows its own.
func TestHeapOrder(t *testing.T) {
	s := draws.New(5)
	h := New()
	for range 3000 {
		switch i := (Item{At: s.Below(20), Flow: s.Below(8), Run: s.Below(2), Ref: s.Below(3)}); s.Below(8) {
		case 0:
			h.Remove(i)
		case 1:
			h.Take(i.At)
		case 2:
			h.Drop(i.Flow, i.Run)
		default:
			h.Add(i)
		}
		listed := 0
		for _, l := range h.runs {
			listed += len(l)
		}
		if listed != h.Len() {
			t.Fatalf("%d are listed; want %d", listed, h.Len())
		}
		for place, x := range h.all {
			if x.place != place || h.find(x.item) != x || !Less(h.all[max(place-1, 0)/2].item, x.item) && place > 0 {
				t.Fatalf("place %d: %v", place, *x)
			}
		}
	}
}
