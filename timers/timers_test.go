package timers_test

import (
	"math"
	"slices"
	"testing"

	"teasel/draws"
	"teasel/timers"
)

func wantLess(t *testing.T, a, b timers.Item, want bool) {
	t.Helper()
	if is := timers.Less(a, b); is != want {
		t.Errorf("Less(%v, %v): %t", a, b, is)
	}
}

func TestP1501Less(t *testing.T) {
	l := some()
	for i, a := range l {
		for j, b := range l {
			wantLess(t, a, b, i < j)
		}
	}
}

// TestP1501LessField: each field by itself decides, whatever is behind it.
func TestP1501LessField(t *testing.T) {
	for field := range 6 {
		for _, x := range ends {
			for _, y := range ends {
				f, g := [6]int{7, 7, 7, 7, 7, 7}, [6]int{7, 7, 7, 7, 7, 7}
				f[field], g[field] = x, y
				wantLess(t, item(f), item(g), x < y)
				if x == y || field == 5 {
					continue
				}
				f[field+1], g[field+1] = math.MaxInt, math.MinInt
				wantLess(t, item(f), item(g), x < y)
				wantLess(t, item(g), item(f), y < x)
			}
		}
	}
}

func TestP1501LessDrawn(t *testing.T) {
	s := draws.New(1)
	for range 20000 {
		var f, g [6]int
		for field := range 6 {
			f[field], g[field] = s.Between(-1, 1), s.Between(-1, 1)
		}
		wantLess(t, item(f), item(g), compareSlowly(item(f), item(g)) < 0)
	}
}

func intLess(a, b int) bool { return a < b }

func TestP1501Least(t *testing.T) {
	for _, s := range []struct {
		l    []int
		want int
	}{
		{[]int{4}, 4}, {[]int{4, 5}, 4}, {[]int{5, 4}, 4}, {[]int{5, 4, 3}, 3}, {[]int{5, 3, 4}, 3}, {[]int{3, 5, 4}, 3},
		{[]int{0, 0, 0}, 0}, {[]int{2, 1, 2, 1}, 1}, {[]int{0, -1}, -1}, {ends, math.MinInt}, {[]int{math.MaxInt}, math.MaxInt},
	} {
		wantLeast(t, s.l, intLess, s.want, true)
	}
	wantLeast(t, []string{"b", "", "a"}, func(a, b string) bool { return a < b }, "", true)
	wantLeast(t, mixed(), timers.Less, some()[0], true)
	wantLeast(t, some(), func(a, b timers.Item) bool { return timers.Less(b, a) }, some()[11], true)
}

func TestP1501LeastOfNone(t *testing.T) {
	wantLeast(t, nil, intLess, 0, false)
	wantLeast(t, []int{}, intLess, 0, false)
	wantLeast(t, []int{7, 8}[:0], intLess, 0, false)
	wantLeast(t, nil, func(a, b string) bool { return true }, "", false)
	wantLeast(t, nil, timers.Less, timers.Item{}, false)
	wantLeast[any](t, nil, func(a, b any) bool { return true }, nil, false)
}

// mark is a number with what tells those of one number apart.
type mark struct {
	n    int
	name string
}

// TestP1501LeastFirst: of several that none is less than the first one.
func TestP1501LeastFirst(t *testing.T) {
	less := func(a, b mark) bool { return a.n < b.n }
	wantLeast(t, []mark{{2, "a"}, {1, "b"}, {2, "c"}, {1, "d"}, {1, "e"}}, less, mark{1, "b"}, true)
	wantLeast(t, []mark{{1, "a"}, {1, "b"}}, less, mark{1, "a"}, true)
	wantLeast(t, []mark{{1, "a"}, {1, "b"}, {0, "c"}}, less, mark{0, "c"}, true)
	wantLeast(t, []mark{{3, "a"}, {2, "b"}, {2, "c"}}, func(a, b mark) bool { return false }, mark{3, "a"}, true)
}

// TestP1501LeastApart: orders in which of two neither need be less.
func TestP1501LeastApart(t *testing.T) {
	divides := func(a, b int) bool { return a < b && b%a == 0 }
	for _, s := range []struct {
		l    []int
		want int
	}{
		{[]int{4, 3, 2}, 3}, {[]int{8, 9, 4, 2, 3}, 2}, {[]int{6, 4, 9, 3}, 4}, {[]int{6, 10, 5, 3}, 5}, {[]int{6, 35, 3}, 35}, {[]int{12, 5, 6, 3}, 5}, {[]int{4, 6, 1}, 1},
	} {
		wantLeast(t, s.l, divides, s.want, true)
	}
	less := func(a, b float64) bool { return a < b }
	if f, is := timers.Least([]float64{3, math.NaN(), 1}, less); !math.IsNaN(f) || !is {
		t.Errorf("Least: %v, %t; want NaN, which none is less than", f, is)
	}
	wantLeast(t, []float64{1, math.NaN(), 3}, less, 1, true)
}

// leastSlowly asks all of each, in order.
func leastSlowly[T any](l []T, less func(a, b T) bool) (t T, is bool) {
	for _, t := range l {
		if !slices.ContainsFunc(l, func(other T) bool { return less(other, t) }) {
			return t, true
		}
	}
	return t, false
}

func TestP1501LeastDrawn(t *testing.T) {
	type pair struct{ x, y, place int }
	both := func(a, b pair) bool { return a.x <= b.x && a.y <= b.y && (a.x < b.x || a.y < b.y) }
	total := func(a, b pair) bool { return a.x < b.x }
	within := func(a, b pair) bool { return a.x&b.x == a.x && a.x != b.x }
	s := draws.New(2)
	for range 6000 {
		l := make([]pair, s.Between(1, 12))
		for place := range l {
			l[place] = pair{s.Below(8), s.Below(8), place}
		}
		for _, less := range []func(a, b pair) bool{both, total, within} {
			want, _ := leastSlowly(l, less)
			wantLeast(t, l, less, want, true)
		}
	}
}

// TestP1501LeastNoOrder: some element, of what answers anything.
func TestP1501LeastNoOrder(t *testing.T) {
	s := draws.New(3)
	for n := range 40 {
		l := make([]int, n)
		for i := range l {
			l[i] = i + 100
		}
		for _, less := range []func(a, b int) bool{
			func(a, b int) bool { return true },
			func(a, b int) bool { return a <= b },
			func(a, b int) bool { return a >= b },
			func(a, b int) bool { return a != b },
			func(a, b int) bool { return (a+1)%3 == b%3 },
			func(a, b int) bool { return (a+1-100)%n == b-100 },
			func(a, b int) bool { return s.Below(2) == 0 },
		} {
			i, is := timers.Least(l, less)
			if is != (n > 0) || is && !slices.Contains(l, i) || !is && i != 0 {
				t.Errorf("of %d: %d, %t", n, i, is)
			}
		}
	}
}

// TestP1501LeastMany: what rises, falls, or is all one, is looked through a few times only.
func TestP1501LeastMany(t *testing.T) {
	const many = 1 << 17
	l := make([]int, many)
	for _, of := range []func(i int) int{
		func(i int) int { return i },
		func(i int) int { return -i },
		func(i int) int { return 0 },
		func(i int) int { return i * 7919 % many },
		func(i int) int { return -i * 7919 % many },
	} {
		for i := range l {
			l[i] = of(i)
		}
		asked := 0
		i, is := timers.Least(l, func(a, b int) bool {
			asked++
			return a < b
		})
		if i != slices.Min(l) || !is || asked > 4*many {
			t.Errorf("Least: %d, %t; asked %d times", i, is, asked)
		}
	}
}

// TestP2Least: what is handed in stays as it is, its spare room too.
func TestP2Least(t *testing.T) {
	l := []int{5, 3, 4, 3, 9, 1, 0}
	was := slices.Clone(l)
	wantLeast(t, l[:5], intLess, 3, true)
	wantLeast(t, l[:6:6], func(a, b int) bool { return a > b }, 9, true)
	if !slices.Equal(l, was) {
		t.Errorf("Least left %v", l)
	}
}

func wantBlock(t *testing.T, want, ack int, l ...int) {
	t.Helper()
	if n := timers.Block(ack, l...); n != want {
		t.Errorf("Block(%d, %v): %d; want %d", ack, l, n, want)
	}
}

func TestP1503Block(t *testing.T) {
	for _, s := range []struct {
		want, ack int
		l         []int
	}{
		{0, 0, nil}, {3, 3, nil}, {3, 3, []int{}},
		{1, 0, []int{1}}, {0, 0, []int{0}}, {0, 0, []int{2}}, {0, 0, []int{-1}}, {5, 5, []int{5}}, {5, 5, []int{4}}, {6, 5, []int{6}}, {5, 5, []int{7}},
		{4, 0, []int{1, 2, 3, 4}}, {4, 0, []int{4, 3, 2, 1}}, {4, 0, []int{3, 1, 4, 2}},
		{2, 0, []int{1, 2, 4, 5}}, {2, 0, []int{5, 4, 2, 1}}, {0, 0, []int{2, 3, 4}},
		{5, 3, []int{5, 4, 7, 4}}, {7, 3, []int{5, 4, 7, 4, 6, 6, 5, 4}}, {3, 3, []int{1, 2, 3}}, {4, 3, []int{1, 2, 3, 4}}, {9, 9, []int{1, 2}},
		{2, 0, []int{math.MaxInt, math.MinInt, 2, -1, 0, 1, 1 << 40, 1 << 32, 1<<32 + 3}},
	} {
		wantBlock(t, s.want, s.ack, s.l...)
	}
}

// TestP1503BlockAck: at the ends of what ack may be, and beyond them.
func TestP1503BlockAck(t *testing.T) {
	const last = 1 << 40
	for _, ack := range []int{0, 1, 1 << 32, last - 3, last - 2, last - 1, last} {
		wantBlock(t, ack+2, ack, ack+2, ack+1, ack+4, ack, ack-1)
		wantBlock(t, ack, ack, ack+2)
	}
	for _, ack := range []int{-1, -2, -last, math.MinInt, last + 1, last + 2, math.MaxInt - 2, math.MaxInt - 1, math.MaxInt} {
		wantBlock(t, ack, ack, ack+1, ack+2, ack+3)
		wantBlock(t, ack, ack)
		wantBlock(t, ack, ack, 0, 1, 2, math.MinInt, math.MaxInt)
	}
}

func TestP1503BlockDrawn(t *testing.T) {
	s := draws.New(4)
	for range 5000 {
		ack := s.Below(4)
		l := make([]int, s.Below(14))
		for i := range l {
			l[i] = s.Between(-1, 10)
		}
		want := ack
		for slices.Contains(l, want+1) {
			want++
		}
		wantBlock(t, want, ack, l...)
	}
}

func TestP1503BlockMany(t *testing.T) {
	const many = 1 << 17
	l := make([]int, many)
	for i := range l {
		l[i] = 5 + many - i
	}
	wantBlock(t, 5+many, 5, l...)
	l[many/2] = 5
	wantBlock(t, 5+many/2-1, 5, l...)
}

// TestP2Block: what is handed in stays as it is, its spare room too.
func TestP2Block(t *testing.T) {
	l := []int{4, 2, 3, 2, 1, 9, 5}
	was := slices.Clone(l)
	wantBlock(t, 4, 0, l[:5]...)
	wantBlock(t, 5, 3, l...)
	if !slices.Equal(l, was) {
		t.Errorf("Block left %v", l)
	}
}
