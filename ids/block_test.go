package ids_test

import (
	"math"
	"testing"

	"teasel/api"
	"teasel/ids"
)

func TestP203Block(t *testing.T) {
	for _, c := range []struct{ rangeID, size, first, past int }{
		{3, 10, 30, 40},
		{0, 1, 0, 1},
		{0, 10, 0, 10},
		{1, 1, 1, 2},
		{7, 1 << 20, 7 << 20, 8 << 20},
		{1 << 40, 1, 1 << 40, 1<<40 + 1},
		{1 << 40, 1 << 20, 1 << 60, 1<<60 + 1<<20},
		{1<<40 - 1, 1<<20 - 1, 1152920405094170625, 1152920405094170625 + 1<<20 - 1},
	} {
		first, past, e := ids.Block(c.rangeID, c.size)
		if first != c.first || past != c.past || e != api.OK {
			t.Errorf("Block(%d, %d): %d, %d, %v; want %d, %d", c.rangeID, c.size, first, past, e, c.first, c.past)
		}
	}
}

func TestP203BlockArgs(t *testing.T) {
	for _, c := range [][2]int{
		{-1, 10}, {math.MinInt, 10}, {1<<40 + 1, 10}, {math.MaxInt, 10},
		{3, 0}, {3, -1}, {3, 1<<20 + 1}, {3, math.MaxInt}, {3, math.MinInt},
		{0, 0}, {0, 1<<20 + 1}, {-1, -1}, {1<<40 + 1, 1}, {1 << 44, 1 << 20}, {math.MinInt, math.MinInt},
	} {
		if first, past, e := ids.Block(c[0], c[1]); first != 0 || past != 0 || e != api.ErrArg {
			t.Errorf("Block(%d, %d): %d, %d, %v; want arg", c[0], c[1], first, past, e)
		}
	}
}

func TestP203Owner(t *testing.T) {
	for _, c := range []struct{ id, size, want int }{
		{29, 10, 2},
		{30, 10, 3},
		{39, 10, 3},
		{40, 10, 4},
		{0, 1, 0},
		{0, 1 << 20, 0},
		{1<<20 - 1, 1 << 20, 0},
		{1 << 20, 1 << 20, 1},
		{1 << 40, 1, 1 << 40},
		{1<<60 + 1<<20 - 1, 1 << 20, 1 << 40},
	} {
		if n, e := ids.Owner(c.id, c.size); n != c.want || e != api.OK {
			t.Errorf("Owner(%d, %d): %d, %v; want %d", c.id, c.size, n, e, c.want)
		}
	}
}

func TestP203OwnerArgs(t *testing.T) {
	for _, c := range [][2]int{
		{-1, 10}, {-10, 10}, {math.MinInt, 10}, {-1, 1 << 20},
		{30, 0}, {30, -1}, {30, 1<<20 + 1}, {30, math.MaxInt}, {30, math.MinInt}, {0, 0},
		{1<<40 + 1, 1}, {1<<41 + 2, 2}, {1<<60 + 1<<20, 1 << 20}, {math.MaxInt, 1}, {math.MaxInt, 1 << 20}, {math.MinInt, -1},
	} {
		if n, e := ids.Owner(c[0], c[1]); n != 0 || e != api.ErrArg {
			t.Errorf("Owner(%d, %d): %d, %v; want arg", c[0], c[1], n, e)
		}
	}
}

// TestP203BlocksMeet: blocks lie one behind the other, and all of each is its range's.
func TestP203BlocksMeet(t *testing.T) {
	for _, size := range []int{1, 2, 10, 1<<20 - 1, 1 << 20} {
		for _, n := range []int{0, 1, 2, 99, 1 << 20, 1<<40 - 1} {
			first, past, _ := ids.Block(n, size)
			if next, _, _ := ids.Block(n+1, size); next != past {
				t.Errorf("Block(%d, %d) ends at %d, the next begins at %d", n, size, past, next)
			}
			for _, id := range []int{first, first + (past-first)/2, past - 1} {
				if o, e := ids.Owner(id, size); o != n || e != api.OK {
					t.Errorf("Owner(%d, %d): %d, %v; want %d", id, size, o, e, n)
				}
			}
			if o, e := ids.Owner(past, size); o != n+1 || e != api.OK {
				t.Errorf("Owner(%d, %d): %d, %v; want %d", past, size, o, e, n+1)
			}
		}
	}
}
