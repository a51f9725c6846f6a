package timers_test

import (
	"math"
	"math/bits"
	"slices"
	"testing"

	"teasel/timers"
)

// ends are numbers at all ends; some of them would be the same, if their upper bits were lost, and some are too far apart to be taken from each other.
var ends = []int{math.MinInt, math.MinInt + 1, -1 << 32, -2, -1, 0, 1, 2, 1 << 32, 1<<32 + 1, 1 << 40, math.MaxInt - 1, math.MaxInt}

// fields are an item's, in the order in which Less goes through them.
func fields(i timers.Item) [6]int { return [6]int{i.At, i.Flow, i.Run, i.Ref, i.Turn, i.Kind} }

func item(f [6]int) timers.Item {
	return timers.Item{At: f[0], Flow: f[1], Run: f[2], Ref: f[3], Turn: f[4], Kind: f[5]}
}

// compareSlowly goes through the fields one by one.
func compareSlowly(a, b timers.Item) int {
	f, g := fields(a), fields(b)
	return slices.Compare(f[:], g[:])
}

// some are items that rise; next to each other they differ in one field, and those behind it fall.
func some() []timers.Item {
	return []timers.Item{
		{1, 9, 9, 9, 9, 9},
		{2, 1, 9, 9, 9, 9},
		{2, 2, 1, 9, 9, 9},
		{2, 2, 2, 1, 9, 9},
		{2, 2, 2, 2, 1, 9},
		{2, 2, 2, 2, 2, 1},
		{2, 2, 2, 2, 2, 2},
		{2, 2, 2, 2, 3, 1},
		{2, 2, 2, 3, 1, 1},
		{2, 2, 3, 1, 1, 1},
		{2, 3, 1, 1, 1, 1},
		{3, 1, 1, 1, 1, 1},
	}
}

// mixed are the same, but don't rise.
func mixed() []timers.Item {
	l := some()
	return []timers.Item{l[7], l[2], l[11], l[0], l[5], l[9], l[1], l[10], l[4], l[8], l[3], l[6]}
}

// filled is a heap to which those were added, in their order.
func filled(t *testing.T, l ...timers.Item) *timers.Heap {
	t.Helper()
	h := timers.New()
	for _, i := range l {
		wantAdd(t, h, i, true)
	}
	return h
}

func wantAdd(t *testing.T, h *timers.Heap, i timers.Item, want bool) {
	t.Helper()
	if is := h.Add(i); is != want {
		t.Errorf("Add(%v): %t", i, is)
	}
}

func wantRemove(t *testing.T, h *timers.Heap, i timers.Item, want bool) {
	t.Helper()
	if is := h.Remove(i); is != want {
		t.Errorf("Remove(%v): %t", i, is)
	}
}

func wantNext(t *testing.T, h *timers.Heap, want timers.Item, wantIs bool) {
	t.Helper()
	if i, is := h.Next(); i != want || is != wantIs {
		t.Errorf("Next: %v, %t; want %v, %t", i, is, want, wantIs)
	}
}

func wantTake(t *testing.T, h *timers.Heap, now int, want timers.Item, wantIs bool) {
	t.Helper()
	if i, is := h.Take(now); i != want || is != wantIs {
		t.Errorf("Take(%d): %v, %t; want %v, %t", now, i, is, want, wantIs)
	}
}

func wantDrop(t *testing.T, h *timers.Heap, flow, run, want int) {
	t.Helper()
	if n := h.Drop(flow, run); n != want {
		t.Errorf("Drop(%d, %d): %d; want %d", flow, run, n, want)
	}
}

// wantItems asks for all that there is, in each way that tells it. It is handed in rising.
func wantItems(t *testing.T, h *timers.Heap, want ...timers.Item) {
	t.Helper()
	if n := h.Len(); n != len(want) {
		t.Errorf("Len: %d; want %d", n, len(want))
	}
	if l := h.List(); !slices.Equal(l, want) {
		t.Errorf("List: %v; want %v", l, want)
	}
	if len(want) == 0 {
		wantNext(t, h, timers.Item{}, false)
		return
	}
	wantNext(t, h, want[0], true)
}

func wantLeast[T comparable](t *testing.T, l []T, less func(a, b T) bool, want T, wantIs bool) {
	t.Helper()
	if got, is := timers.Least(l, less); got != want || is != wantIs {
		t.Errorf("Least(%v): %v, %t; want %v, %t", l, got, is, want, wantIs)
	}
}

// orders hands on each order of n things.
func orders(n int, yield func(order []int)) {
	var order []int
	var lay func(taken uint)
	lay = func(taken uint) {
		if bits.OnesCount(taken) == n {
			yield(order)
			return
		}
		for k := range n {
			if taken>>k&1 == 0 {
				order = append(order, k)
				lay(taken | 1<<k)
				order = order[:len(order)-1]
			}
		}
	}
	lay(0)
}
