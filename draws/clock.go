package draws

import (
	"cmp"
	"slices"

	"teasel/api"
)

const lastTick = 1 << 40

// Clock has alarms.
type Clock struct {
	now    int
	alarms map[int]int // each id's tick
}

func NewClock() *Clock { return &Clock{} }

func (c *Clock) Tick(n int) int {
	if 1 <= n && n <= api.MaxTicks {
		c.now += n
	}
	return c.now
}

func (c *Clock) Now() int { return c.now }

func (c *Clock) Set(id, at int) bool {
	if at <= c.now || at > lastTick {
		delete(c.alarms, id)
		return false
	}
	// Made here, and not by NewClock, so that a clock that is declared does not panic.
	if c.alarms == nil {
		c.alarms = map[int]int{}
	}
	c.alarms[id] = at
	return true
}

func (c *Clock) Drop(id int) bool {
	_, is := c.alarms[id]
	delete(c.alarms, id)
	return is
}

func (c *Clock) Due() []int {
	var due []int
	for id, at := range c.alarms {
		if at <= c.now {
			due = append(due, id)
		}
	}
	slices.SortFunc(due, c.compare)
	for _, id := range due {
		delete(c.alarms, id)
	}
	return due
}

func (c *Clock) Next() (int, bool) {
	least, is := 0, false
	for _, at := range c.alarms {
		if !is || at < least {
			least, is = at, true
		}
	}
	return least, is
}

func (c *Clock) compare(a, b int) int {
	return cmp.Or(cmp.Compare(c.alarms[a], c.alarms[b]), cmp.Compare(a, b))
}
