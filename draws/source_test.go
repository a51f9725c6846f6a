package draws_test

import (
	"math"
	"math/big"
	"testing"

	"teasel/draws"
	"teasel/ids"
)

const (
	golden     uint64 = 0x9E3779B97F4A7C15
	beforeZero        = math.MaxUint64 - golden + 1 // the state wraps to 0
)

func TestP301NextKnown(t *testing.T) {
	for _, c := range []struct {
		seed uint64
		want []uint64
	}{
		{0, []uint64{0xE220A8397B1DCDAF, 0x6E789E6AA1B965F4, 0x06C45D188009454F, 0xF88BB8A8724C81EC}},
		{1234567, []uint64{6457827717110365317, 3203168211198807973, 9817491932198370423, 4593380528125082431, 16408922859458223821}},
		{beforeZero, []uint64{0, 0xE220A8397B1DCDAF}},
	} {
		s := draws.New(c.seed)
		for i, want := range c.want {
			if v := s.Next(); v != want {
				t.Errorf("New(%d), draw %d: %X; want %X", c.seed, i, v, want)
			}
		}
	}
}

// seeds are some of all 64 bits, at whose ends the state wraps.
func seeds() []uint64 {
	return []uint64{0, 1, 2, 5, 1 << 31, 1<<32 - 1, 1<<63 - 1, 1 << 63, math.MaxUint64 - 1, math.MaxUint64, golden, beforeZero}
}

func TestP301NextIsHashOfState(t *testing.T) {
	for _, seed := range seeds() {
		s, state := draws.New(seed), seed
		for i := range 1000 {
			state += golden
			if v, want := s.Next(), ids.Hash(int(state)); v != want {
				t.Fatalf("New(%d), draw %d: %X; want %X", seed, i, v, want)
			}
		}
	}
}

// TestP301SourcesApart: what one source draws is nothing to another one of the same seed.
func TestP301SourcesApart(t *testing.T) {
	a, b := draws.New(9), draws.New(9)
	first := a.Next()
	for range 10 {
		a.Next()
	}
	if v := b.Next(); v != first || a.Count() != 11 || b.Count() != 1 {
		t.Errorf("%X; want %X; %d, %d drawn", v, first, a.Count(), b.Count())
	}
}

func TestP301Below(t *testing.T) {
	for _, seed := range seeds() {
		s, next := draws.New(seed), draws.New(seed)
		for _, n := range []int{1, 2, 3, 6, 7, 10, 1 << 20, 1<<20 + 1, 1 << 32, 1 << 40, 1 << 62, math.MaxInt - 1, math.MaxInt} {
			for range 20 {
				want := new(big.Int).SetUint64(next.Next())
				want.Mod(want, big.NewInt(int64(n)))
				if v := s.Below(n); int64(v) != want.Int64() {
					t.Errorf("New(%d): Below(%d): %d; want %d", seed, n, v, want)
				}
			}
		}
		if s.Count() != next.Count() {
			t.Errorf("New(%d): %d drawn; want %d", seed, s.Count(), next.Count())
		}
	}
}

func TestP301BelowNone(t *testing.T) {
	for _, n := range []int{0, -1, -2, -1 << 40, math.MinInt + 1, math.MinInt} {
		s := draws.New(3)
		if v := s.Below(n); v != 0 {
			t.Errorf("Below(%d): %d; want 0", n, v)
		}
		wantDrawn(t, s, 3, 0)
	}
}

// wantDrawn holds s to be where a source of that seed is behind so many draws.
func wantDrawn(t *testing.T, s *draws.Source, seed uint64, drawn int) {
	t.Helper()
	if s.Count() != drawn {
		t.Errorf("%d drawn; want %d", s.Count(), drawn)
	}
	if v, want := s.Next(), ids.Hash(int(seed+uint64(drawn+1)*golden)); v != want {
		t.Errorf("behind it %X; want %X", v, want)
	}
}

func TestP301BetweenDraws(t *testing.T) {
	const far = 1 << 40
	for _, c := range [][2]int{
		{0, 0}, {5, 5}, {-5, -5}, {0, 1}, {-3, 3}, {150, 300}, {-300, -150},
		{far, far}, {-far, -far}, {far - 1, far}, {-far, -far + 1},
		{0, far - 1}, {1, far}, {-1, far - 2}, {-far + 1, 0}, {-far, -1}, {-far / 2, far/2 - 1},
	} {
		for _, seed := range seeds() {
			s := draws.New(seed)
			next := ids.Hash(int(seed + golden))
			want := c[0] + int(next%uint64(c[1]-c[0]+1))
			if v := s.Between(c[0], c[1]); v != want {
				t.Errorf("New(%d): Between(%d, %d): %d; want %d", seed, c[0], c[1], v, want)
			}
			wantDrawn(t, s, seed, 1)
		}
	}
}

func TestP301BetweenDrawsNone(t *testing.T) {
	const far = 1 << 40
	for _, c := range [][2]int{
		{9, 3}, {1, 0}, {0, -1}, {far, -far}, {far, far - 1},
		{0, far}, {-1, far - 1}, {-far, 0}, {-far / 2, far / 2}, {-far, far}, {0, far + 1}, {0, 2 * far},
		{far + 1, far + 1}, {far, far + 1}, {2, far + 1}, {-far - 1, -far - 1}, {-far - 1, -far}, {-far - 1, -2},
		{far + 1, far}, {-far, -far - 1},
		{math.MinInt, math.MinInt}, {math.MaxInt, math.MaxInt}, {math.MinInt, math.MaxInt}, {math.MaxInt, math.MinInt},
		{math.MinInt, 0}, {0, math.MinInt}, {math.MaxInt, 0}, {0, math.MaxInt}, {-1, math.MaxInt}, {-2, math.MaxInt},
		{math.MinInt, math.MinInt + 1}, {math.MaxInt - 1, math.MaxInt}, {math.MinInt, -far}, {far, math.MinInt + far},
	} {
		s := draws.New(4)
		if v := s.Between(c[0], c[1]); v != c[0] {
			t.Errorf("Between(%d, %d): %d; want %d", c[0], c[1], v, c[0])
		}
		wantDrawn(t, s, 4, 0)
	}
}

// TestP301BetweenReachesBothEnds: lo and hi are drawn too.
func TestP301BetweenReachesBothEnds(t *testing.T) {
	s, times := draws.New(6), map[int]int{}
	for range 500 {
		times[s.Between(-2, 2)]++
	}
	for v := -2; v <= 2; v++ {
		if times[v] == 0 {
			t.Errorf("%d is not drawn", v)
		}
	}
	if len(times) != 5 {
		t.Errorf("drawn: %v", times)
	}
}

func TestP301Twin(t *testing.T) {
	s := draws.New(8)
	s.Next()
	s.Below(10)
	twin, apart := s.Twin(), s.Twin()
	if twin.Count() != 2 {
		t.Errorf("%d drawn; want 2", twin.Count())
	}
	var drawn []uint64
	for range 5 {
		drawn = append(drawn, s.Next())
	}
	for i, want := range drawn {
		if v := twin.Next(); v != want {
			t.Errorf("draw %d: %X; want %X", i, v, want)
		}
	}
	wantDrawn(t, apart, 8, 2)
	wantDrawn(t, twin.Twin(), 8, 7)
	wantDrawn(t, s, 8, 7)
	wantDrawn(t, twin, 8, 7)
}

func TestP301Count(t *testing.T) {
	s := draws.New(1)
	for i, c := range []struct {
		call func()
		want int
	}{
		{func() {}, 0},
		{func() { s.Next() }, 1},
		{func() { s.Below(1) }, 2},
		{func() { s.Below(0) }, 2},
		{func() { s.Between(4, 4) }, 3},
		{func() { s.Between(4, 3) }, 3},
		{func() { s.Twin().Next() }, 3},
		{func() { s.Count() }, 3},
		{func() { s.Between(1, 6) }, 4},
	} {
		c.call()
		if n := s.Count(); n != c.want {
			t.Errorf("call %d: %d drawn; want %d", i, n, c.want)
		}
	}
}
