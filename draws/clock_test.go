package draws_test

import (
	"cmp"
	"math"
	"slices"
	"testing"

	"teasel/api"
	"teasel/draws"
)

const last = 1 << 40

func TestP302Tick(t *testing.T) {
	c := draws.NewClock()
	if c.Now() != 0 {
		t.Errorf("begins at %d", c.Now())
	}
	for _, s := range []struct{ n, now int }{
		{1, 1}, {0, 1}, {-1, 1}, {math.MinInt, 1}, {5, 6},
		{api.MaxTicks, 6 + api.MaxTicks}, {api.MaxTicks + 1, 6 + api.MaxTicks}, {math.MaxInt, 6 + api.MaxTicks},
		{api.MaxTicks - 1, 5 + 2*api.MaxTicks}, {1 << 40, 5 + 2*api.MaxTicks},
	} {
		if now := c.Tick(s.n); now != s.now || c.Now() != s.now {
			t.Errorf("Tick(%d): %d, then %d; want %d", s.n, now, c.Now(), s.now)
		}
	}
}

func TestP302Set(t *testing.T) {
	for _, s := range []struct {
		at   int
		want bool
	}{
		{6, true}, {7, true}, {last - 1, true}, {last, true},
		{5, false}, {4, false}, {0, false}, {-1, false}, {math.MinInt, false},
		{last + 1, false}, {math.MaxInt, false},
	} {
		c := draws.NewClock()
		c.Tick(5)
		if is := c.Set(3, s.at); is != s.want {
			t.Errorf("Set(3, %d): %t", s.at, is)
		}
		wantNext(t, c, s.at, s.want)
	}
}

// wantNext holds Next to tell at, or nothing.
func wantNext(t *testing.T, c *draws.Clock, at int, is bool) {
	t.Helper()
	if !is {
		at = 0
	}
	if n, got := c.Next(); n != at || got != is {
		t.Errorf("Next: %d, %t; want %d, %t", n, got, at, is)
	}
}

func wantDue(t *testing.T, c *draws.Clock, want ...int) {
	t.Helper()
	if l := c.Due(); !slices.Equal(l, want) {
		t.Errorf("Due: %v; want %v", l, want)
	}
}

// TestP302SetAnew: of one id there is one alarm, the one that was set last.
func TestP302SetAnew(t *testing.T) {
	c := draws.NewClock()
	c.Set(1, 5)
	c.Set(1, 9)
	wantNext(t, c, 9, true)
	c.Tick(5)
	wantDue(t, c)
	c.Set(1, 7)
	wantNext(t, c, 7, true)
	c.Tick(2)
	wantDue(t, c, 1)
	c.Tick(2)
	wantDue(t, c)
}

// TestP302SetRefused: an alarm that is set where it may not be is none any more; others stay.
func TestP302SetRefused(t *testing.T) {
	for _, at := range []int{5, 4, 0, -1, math.MinInt, last + 1, math.MaxInt} {
		c := draws.NewClock()
		c.Tick(5)
		c.Set(1, 8)
		c.Set(2, 6)
		if c.Set(2, at) {
			t.Errorf("Set(2, %d): true", at)
		}
		wantNext(t, c, 8, true)
		if c.Drop(2) {
			t.Errorf("Set(2, %d): it is there still", at)
		}
		c.Tick(5)
		wantDue(t, c, 1)
	}
}

func TestP302Drop(t *testing.T) {
	c := draws.NewClock()
	if c.Drop(1) {
		t.Error("one of none")
	}
	c.Set(1, 5)
	c.Set(2, 6)
	if c.Drop(3) || !c.Drop(1) || c.Drop(1) {
		t.Error("Drop")
	}
	wantNext(t, c, 6, true)
	c.Tick(7)
	if !c.Drop(2) { // due, but not told yet
		t.Error("one that is due")
	}
	wantDue(t, c)
	wantNext(t, c, 0, false)
}

func TestP302DueOrder(t *testing.T) {
	c := draws.NewClock()
	for _, s := range [][2]int{
		{3, 5}, {1, 5}, {2, 4}, {7, 6}, {-4, 5}, {math.MaxInt, 4}, {math.MinInt, 5}, {0, 5}, {9, 1}, {8, 7},
	} {
		c.Set(s[0], s[1])
	}
	c.Tick(6)
	wantDue(t, c, 9, 2, math.MaxInt, math.MinInt, -4, 0, 1, 3, 7)
	wantDue(t, c)
	wantNext(t, c, 7, true)
	if c.Drop(9) || c.Drop(7) || !c.Drop(8) {
		t.Error("Drop")
	}
}

// TestP302DueAtItsTick: not a tick ahead of it, and at it, and behind it.
func TestP302DueAtItsTick(t *testing.T) {
	for at, want := range map[int][]int{4: {6}, 5: {6}, 6: nil} {
		c := draws.NewClock()
		c.Set(6, at)
		c.Tick(5)
		wantDue(t, c, want...)
	}
}

// TestP302DueStays: alarms whose tick was are there until they are told.
func TestP302DueStays(t *testing.T) {
	c := draws.NewClock()
	c.Set(4, 2)
	c.Set(5, 1)
	c.Tick(9)
	wantNext(t, c, 1, true)
	c.Set(5, 10) // anew, though it was due
	wantNext(t, c, 2, true)
	wantDue(t, c, 4)
	wantNext(t, c, 10, true)
}

// TestP302DueIsNew (P2): what was answered is not the clock's any more.
func TestP302DueIsNew(t *testing.T) {
	c := draws.NewClock()
	for id := range 3 {
		c.Set(id, 1)
		c.Set(id+10, 2)
	}
	c.Tick(1)
	first := c.Due()
	c.Tick(1)
	second := c.Due()
	for i := range first[:cap(first)] {
		first[:cap(first)][i] = 99
	}
	if !slices.Equal(second, []int{10, 11, 12}) {
		t.Errorf("%v", second)
	}
	wantDue(t, c)
}

func TestP302Next(t *testing.T) {
	c := draws.NewClock()
	wantNext(t, c, 0, false)
	c.Set(1, last)
	wantNext(t, c, last, true)
	c.Set(2, 8)
	c.Set(3, 9)
	wantNext(t, c, 8, true)
	wantNext(t, c, 8, true)
	c.Drop(2)
	wantNext(t, c, 9, true)
}

// TestP302LastTick: alarms end where time goes on.
func TestP302LastTick(t *testing.T) {
	c := draws.NewClock()
	c.Set(1, last)
	for range last/api.MaxTicks - 1 {
		c.Tick(api.MaxTicks)
	}
	c.Tick(api.MaxTicks - 1)
	if c.Now() != last-1 || !c.Set(2, last) || c.Set(3, last+1) {
		t.Errorf("at %d", c.Now())
	}
	wantDue(t, c)
	if c.Tick(1) != last || c.Set(4, last) || c.Set(5, last+1) {
		t.Errorf("at %d", c.Now())
	}
	wantDue(t, c, 1, 2)
	if c.Tick(7) != last+7 || c.Set(6, last+7) || c.Set(6, last+8) || c.Set(6, last) {
		t.Errorf("at %d", c.Now())
	}
	wantNext(t, c, 0, false)
}

// TestP302Declared (P1): a clock that NewClock did not make begins at 0 too.
func TestP302Declared(t *testing.T) {
	var c draws.Clock
	wantNext(t, &c, 0, false)
	wantDue(t, &c)
	if c.Drop(1) || c.Set(1, 0) || !c.Set(1, 3) || c.Tick(3) != 3 {
		t.Error("a clock that is declared")
	}
	wantDue(t, &c, 1)
}

// slowClock keeps its alarms as a list, by tick, then id.
type slowClock struct {
	now    int
	alarms [][2]int // id, tick
}

func (c *slowClock) drop(id int) bool {
	had := len(c.alarms)
	c.alarms = slices.DeleteFunc(c.alarms, func(a [2]int) bool { return a[0] == id })
	return len(c.alarms) < had
}

func (c *slowClock) set(id, at int) bool {
	c.drop(id)
	if at <= c.now || at > last {
		return false
	}
	c.alarms = append(c.alarms, [2]int{id, at})
	slices.SortFunc(c.alarms, func(a, b [2]int) int {
		return cmp.Or(cmp.Compare(a[1], b[1]), cmp.Compare(a[0], b[0]))
	})
	return true
}

func (c *slowClock) due() (l []int) {
	for len(c.alarms) > 0 && c.alarms[0][1] <= c.now {
		l = append(l, c.alarms[0][0])
		c.alarms = c.alarms[1:]
	}
	return l
}

func TestP302AgainstSlowClock(t *testing.T) {
	for seed := range uint64(50) {
		s, c, slow := draws.New(seed), draws.NewClock(), &slowClock{}
		for range 400 {
			id := s.Between(-8, 8)
			switch s.Below(6) {
			case 0, 1, 2:
				at := c.Now() + s.Between(-3, 20)
				if got, want := c.Set(id, at), slow.set(id, at); got != want {
					t.Fatalf("seed %d: Set(%d, %d): %t; want %t", seed, id, at, got, want)
				}
			case 3:
				if got, want := c.Drop(id), slow.drop(id); got != want {
					t.Fatalf("seed %d: Drop(%d): %t; want %t", seed, id, got, want)
				}
			case 4:
				n := s.Below(6)
				slow.now += n
				if now := c.Tick(n); now != slow.now {
					t.Fatalf("seed %d: Tick(%d): %d; want %d", seed, n, now, slow.now)
				}
			case 5:
				wantDue(t, c, slow.due()...)
			}
			if len(slow.alarms) > 0 {
				wantNext(t, c, slow.alarms[0][1], true)
			} else {
				wantNext(t, c, 0, false)
			}
		}
	}
}
