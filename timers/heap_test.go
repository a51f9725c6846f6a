package timers_test

import (
	"math"
	"slices"
	"testing"

	"teasel/timers"
)

func TestP1502New(t *testing.T) {
	h := timers.New()
	wantItems(t, h)
	wantItems(t, h)
	wantAdd(t, h, timers.Item{}, true)
	wantItems(t, h, timers.Item{})
}

func TestP1502Add(t *testing.T) {
	h := timers.New()
	var l []timers.Item
	for _, i := range mixed() {
		wantAdd(t, h, i, true)
		l = append(l, i)
		slices.SortFunc(l, compareSlowly)
		wantItems(t, h, l...)
	}
	for _, i := range some() {
		wantAdd(t, h, i, false)
		wantItems(t, h, l...)
	}
}

// TestP1502AddField: items of which one field differs are two, at all ends.
func TestP1502AddField(t *testing.T) {
	for field := range 6 {
		h := timers.New()
		var l []timers.Item
		for _, n := range ends {
			f := [6]int{7, 7, 7, 7, 7, 7}
			f[field] = n
			wantAdd(t, h, item(f), true)
			wantAdd(t, h, item(f), false)
			l = append(l, item(f))
		}
		wantRemove(t, h, timers.Item{At: 7, Flow: 7, Run: 7, Ref: 7, Turn: 7, Kind: 7}, false)
		wantItems(t, h, l...)
		for k, i := range l {
			wantRemove(t, h, i, true)
			wantRemove(t, h, i, false)
			wantItems(t, h, l[k+1:]...)
		}
	}
}

// TestP1502AddAgain: what was there once, but is no more, may be there again.
func TestP1502AddAgain(t *testing.T) {
	i := some()[3]
	h := timers.New()
	for range 3 {
		wantAdd(t, h, i, true)
		wantRemove(t, h, i, true)
		wantAdd(t, h, i, true)
		wantTake(t, h, i.At, i, true)
		wantAdd(t, h, i, true)
		wantDrop(t, h, i.Flow, i.Run, 1)
		wantItems(t, h)
	}
}

func TestP1502Remove(t *testing.T) {
	l := some()
	for _, i := range l {
		h := filled(t, mixed()...)
		wantRemove(t, h, timers.Item{}, false)
		wantRemove(t, h, timers.Item{At: i.At, Flow: i.Flow, Run: i.Run}, false)
		wantItems(t, h, l...)
		wantRemove(t, h, i, true)
		wantRemove(t, h, i, false)
		wantItems(t, h, slices.DeleteFunc(some(), func(other timers.Item) bool { return other == i })...)
	}
	h := timers.New()
	wantRemove(t, h, timers.Item{}, false)
	wantItems(t, h)
}

// TestP1502Orders: in each order in which a few come, each of them may go first, and the others follow, rising.
func TestP1502Orders(t *testing.T) {
	l := some()[3:9]
	orders(len(l), func(order []int) {
		for _, out := range order {
			h := timers.New()
			for _, k := range order {
				h.Add(l[k])
			}
			h.Remove(l[out])
			for k := range l {
				if k != out {
					wantTake(t, h, 2, l[k], true)
				}
			}
			wantItems(t, h)
		}
	})
}

func TestP1502Next(t *testing.T) {
	l := some()
	h := filled(t, mixed()...)
	for k, i := range l {
		wantNext(t, h, i, true)
		wantNext(t, h, i, true)
		wantItems(t, h, l[k:]...)
		wantRemove(t, h, i, true)
	}
	wantNext(t, h, timers.Item{}, false)
}

// TestP1502Take: not a tick ahead of its At, at it, and behind it.
func TestP1502Take(t *testing.T) {
	for _, at := range ends {
		i := timers.Item{At: at, Flow: 3, Run: 1, Ref: 2, Turn: 4, Kind: 5}
		for _, now := range ends {
			h := filled(t, i)
			if now < at {
				wantTake(t, h, now, timers.Item{}, false)
				wantItems(t, h, i)
				continue
			}
			wantTake(t, h, now, i, true)
			wantItems(t, h)
			wantTake(t, h, now, timers.Item{}, false)
			wantRemove(t, h, i, false)
		}
	}
}

// TestP1502TakeAll: one a call, the least first, as far as they are due.
func TestP1502TakeAll(t *testing.T) {
	l := some()
	h := filled(t, mixed()...)
	wantTake(t, h, 0, timers.Item{}, false)
	wantTake(t, h, math.MinInt, timers.Item{}, false)
	wantItems(t, h, l...)
	wantTake(t, h, 1, l[0], true)
	wantTake(t, h, 1, timers.Item{}, false)
	for k := 1; k < 11; k++ {
		wantItems(t, h, l[k:]...)
		wantTake(t, h, 2, l[k], true)
	}
	wantTake(t, h, 2, timers.Item{}, false)
	wantAdd(t, h, l[4], true) // one that is due comes ahead of what was least
	wantTake(t, h, 3, l[4], true)
	wantTake(t, h, math.MaxInt, l[11], true)
	wantTake(t, h, math.MaxInt, timers.Item{}, false)
	wantItems(t, h)
}

// ofRuns are items of several runs, rising; some have one of two numbers alike, or each other's.
func ofRuns() []timers.Item {
	return []timers.Item{
		{At: -5, Flow: 2, Run: 1},
		{At: 0, Flow: 0, Run: 0},
		{At: 1, Flow: 1, Run: 1, Kind: 3},
		{At: 1, Flow: 1, Run: 2},
		{At: 1, Flow: 1, Run: 2, Ref: 6},
		{At: 1, Flow: 2, Run: 1},
		{At: 2, Flow: 1, Run: 2, Kind: 1},
		{At: 2, Flow: 1, Run: 2, Kind: 2},
		{At: 3, Flow: math.MinInt, Run: math.MaxInt},
		{At: 3, Flow: 1<<32 + 1, Run: 2},
		{At: 4, Flow: 1, Run: 1<<32 + 2},
		{At: 4, Flow: 2, Run: 1, Turn: 1},
		{At: 1 << 40, Flow: 1, Run: 2},
	}
}

func TestP1502Drop(t *testing.T) {
	for _, s := range []struct{ flow, run, want int }{
		{1, 2, 5}, {2, 1, 3}, {1, 1, 1}, {0, 0, 1}, {1<<32 + 1, 2, 1}, {1, 1<<32 + 2, 1}, {math.MinInt, math.MaxInt, 1},
		{2, 2, 0}, {1, 0, 0}, {0, 1, 0}, {-1, 2, 0}, {1, -2, 0}, {3, 3, 0}, {math.MaxInt, math.MinInt, 0},
	} {
		l := ofRuns()
		h := filled(t, l[5], l[12], l[0], l[7], l[3], l[9], l[1], l[10], l[4], l[11], l[2], l[8], l[6])
		wantDrop(t, h, s.flow, s.run, s.want)
		left := slices.DeleteFunc(ofRuns(), func(i timers.Item) bool { return i.Flow == s.flow && i.Run == s.run })
		wantItems(t, h, left...)
		wantDrop(t, h, s.flow, s.run, 0)
		wantItems(t, h, left...)
		for _, i := range l {
			wantRemove(t, h, i, i.Flow != s.flow || i.Run != s.run)
		}
		wantItems(t, h)
	}
	wantDrop(t, timers.New(), 0, 0, 0)
}

// TestP1502DropAll: run by run, in each order.
func TestP1502DropAll(t *testing.T) {
	runs := [][3]int{{1, 2, 5}, {2, 1, 3}, {1, 1, 1}, {0, 0, 1}}
	orders(len(runs), func(order []int) {
		h := filled(t, ofRuns()...)
		for _, k := range order {
			wantDrop(t, h, runs[k][0], runs[k][1], runs[k][2])
		}
		l := ofRuns()
		wantItems(t, h, l[8], l[9], l[10])
	})
}

// TestP1502DropTaken: what was taken or removed is not counted; what came again is.
func TestP1502DropTaken(t *testing.T) {
	h := filled(t, ofRuns()...)
	l := ofRuns()
	wantTake(t, h, 0, l[0], true)
	wantRemove(t, h, l[5], true)
	wantDrop(t, h, 2, 1, 1)
	wantAdd(t, h, l[5], true)
	wantAdd(t, h, l[0], true)
	wantDrop(t, h, 2, 1, 2)
	wantItems(t, h, l[1], l[2], l[3], l[4], l[6], l[7], l[8], l[9], l[10], l[12])
}

// TestP1502Many: as many as would take too long, if each call went through all.
func TestP1502Many(t *testing.T) {
	const many = 1 << 17
	for _, of := range []func(i int) int{
		func(i int) int { return i },
		func(i int) int { return many - 1 - i },
		func(i int) int { return i * 7919 % many },
	} {
		h := timers.New()
		for i := range many {
			wantAdd(t, h, timers.Item{At: of(i) / 2, Flow: of(i), Run: 1}, true)
		}
		for i := range many / 4 {
			wantRemove(t, h, timers.Item{At: (4*i + 1) / 2, Flow: 4*i + 1, Run: 1}, true)
			wantDrop(t, h, 4*i+2, 1, 1)
			wantDrop(t, h, 4*i+2, 1, 0)
		}
		for i := range many / 4 {
			wantTake(t, h, 2*i-1, timers.Item{}, false)
			wantTake(t, h, 2*i, timers.Item{At: 2 * i, Flow: 4 * i, Run: 1}, true)
			wantTake(t, h, 2*i, timers.Item{}, false)
			wantTake(t, h, 2*i+1, timers.Item{At: 2*i + 1, Flow: 4*i + 3, Run: 1}, true)
		}
		wantItems(t, h)
	}
}

// TestP1502ManyOfOne: a run that has very many; they are dropped at once, and leave the others.
func TestP1502ManyOfOne(t *testing.T) {
	const many = 1 << 16
	h := timers.New()
	for i := range many {
		wantAdd(t, h, timers.Item{At: i * 7919 % many, Flow: i % 2, Ref: i}, true)
	}
	wantDrop(t, h, 0, 0, many/2)
	l := h.List()
	if len(l) != many/2 || h.Len() != many/2 || !slices.IsSortedFunc(l, compareSlowly) || slices.ContainsFunc(l, func(i timers.Item) bool { return i.Flow != 1 }) {
		t.Errorf("%d are left", len(l))
	}
	for _, i := range l {
		wantTake(t, h, many, i, true)
	}
	wantItems(t, h)
}

// TestP2List: each answer is new memory, its spare room too.
func TestP2List(t *testing.T) {
	h := filled(t, mixed()...)
	l, other := h.List(), h.List()
	l = l[:cap(l)]
	for k := range l {
		l[k] = timers.Item{At: -9}
	}
	if !slices.Equal(other, some()) {
		t.Errorf("List: %v", other)
	}
	wantItems(t, h, some()...)
	h.Drop(2, 2)
	h.Add(timers.Item{At: -1})
	if !slices.Equal(other, some()) {
		t.Errorf("List: %v", other)
	}
}

// TestP2Item: an item is told as it was added, whatever is done with what was handed in or told.
func TestP2Item(t *testing.T) {
	h := timers.New()
	i := some()[0]
	h.Add(i)
	i.At = 99
	next, _ := h.Next()
	next.Flow = 99
	wantItems(t, h, some()[0])
}

// TestP7Apart: heaps of two News have nothing in common.
func TestP7Apart(t *testing.T) {
	h, other := timers.New(), timers.New()
	l := some()
	wantAdd(t, h, l[0], true)
	wantItems(t, other)
	wantAdd(t, other, l[0], true)
	wantAdd(t, other, l[1], true)
	wantRemove(t, h, l[1], false)
	wantDrop(t, h, l[0].Flow, l[0].Run, 1)
	wantItems(t, h)
	wantItems(t, other, l[0], l[1])
}

// TestP1Declared: a heap that New did not make has nothing in the beginning, too.
func TestP1Declared(t *testing.T) {
	var h timers.Heap
	wantRemove(t, &h, timers.Item{}, false)
	wantTake(t, &h, math.MaxInt, timers.Item{}, false)
	wantDrop(t, &h, 0, 0, 0)
	wantItems(t, &h)
	wantAdd(t, &h, timers.Item{}, true)
	wantItems(t, &h, timers.Item{})
}
