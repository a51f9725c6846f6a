package ids_test

import (
	"math"
	"math/rand"
	"slices"
	"testing"

	"teasel/api"
	"teasel/ids"
)

func TestP202TokenBits(t *testing.T) {
	for _, c := range []struct {
		k    api.Token
		want uint64
	}{
		{api.Token{Flow: 1}, 1 << 44},
		{api.Token{Run: 1}, 1 << 28},
		{api.Token{Run: 1, Event: 1}, 1<<28 | 1<<12},
		{api.Token{Run: 1, Turn: 1}, 1<<28 | 1},
		{api.Token{Flow: 0xABCDE, Run: 0x1234, Event: 0x5678, Turn: 0x9AF}, 0xABCDE123456789AF},
		{api.Token{Flow: 1<<20 - 1}, 0xFFFFF << 44},
		{api.Token{Run: 1<<16 - 1}, 0xFFFF << 28},
		{api.Token{Flow: 1, Event: 1<<16 - 1}, 1<<44 | 0xFFFF<<12},
		{api.Token{Flow: 1, Turn: 1<<12 - 1}, 1<<44 | 0xFFF},
		{api.Token{Flow: 1<<20 - 1, Run: 1<<16 - 1, Event: 1<<16 - 1, Turn: 1<<12 - 1}, math.MaxUint64},
	} {
		if v := ids.Token(c.k); v != c.want {
			t.Errorf("Token(%v): %X; want %X", c.k, v, c.want)
		}
		if k, e := ids.Of(c.want); k != c.k || e != api.OK {
			t.Errorf("Of(%X): %v, %v; want %v", c.want, k, e, c.k)
		}
	}
}

// TestP202TokenNoFit sets one number at a time, beside others that fit.
func TestP202TokenNoFit(t *testing.T) {
	for _, base := range []api.Token{{Flow: 1}, {Run: 1}, {Flow: 5, Run: 6, Event: 7, Turn: 8},
		{Flow: 1<<20 - 1, Run: 1<<16 - 1, Event: 1<<16 - 1, Turn: 1<<12 - 1}} {
		for _, c := range []struct {
			name string
			bits int
			at   func(k *api.Token) *int
		}{
			{"Flow", 20, func(k *api.Token) *int { return &k.Flow }},
			{"Run", 16, func(k *api.Token) *int { return &k.Run }},
			{"Event", 16, func(k *api.Token) *int { return &k.Event }},
			{"Turn", 12, func(k *api.Token) *int { return &k.Turn }},
		} {
			for _, n := range []int{1 << c.bits, 1<<c.bits + 1, 1 << 28, 1 << 44, 1 << 52, 1 << 62, math.MaxInt, -1, -1 << c.bits, math.MinInt} {
				k := base
				*c.at(&k) = n
				if v := ids.Token(k); v != 0 {
					t.Errorf("Token with %s %d: %X; want 0", c.name, n, v)
				}
			}
		}
	}
}

func TestP202TokenOfNoRun(t *testing.T) {
	for _, k := range []api.Token{{}, {Event: 1}, {Turn: 1}, {Event: 1<<16 - 1, Turn: 1<<12 - 1}, {Event: 1 << 16}} {
		if v := ids.Token(k); v != 0 {
			t.Errorf("Token(%v): %X; want 0", k, v)
		}
	}
}

func TestP202OfNone(t *testing.T) {
	for _, v := range []uint64{0, 1, 1 << 12, 1<<28 - 1} {
		if k, e := ids.Of(v); e != api.ErrForm || k != (api.Token{}) {
			t.Errorf("Of(%X): %v, %v; want form", v, k, e)
		}
	}
}

func TestP202ThereAndBack(t *testing.T) {
	r := rand.New(rand.NewSource(2))
	for range 1 << 12 {
		v := r.Uint64() >> r.Intn(36) // 1 << 28 at least, most of the time
		k, e := ids.Of(v)
		if v >= 1<<28 {
			if e != api.OK || ids.Token(k) != v {
				t.Errorf("Of(%X): %v, %v, which is packed as %X", v, k, e, ids.Token(k))
			}
		} else if e != api.ErrForm || k != (api.Token{}) {
			t.Errorf("Of(%X): %v, %v; want form", v, k, e)
		}
	}
}

// inOrder rises by Flow, Run, Event, Turn; what comes later in that order falls where it may.
func inOrder() []api.Token {
	ends := []int{math.MinInt, -1, 0, 1, math.MaxInt}
	var l []api.Token
	for _, f := range ends {
		for _, r := range ends {
			for _, e := range ends {
				for _, n := range ends {
					l = append(l, api.Token{Flow: f, Run: r, Event: e, Turn: n})
				}
			}
		}
	}
	return l
}

func TestP202Less(t *testing.T) {
	l := inOrder()
	for i, a := range l {
		for j, b := range l {
			if ids.Less(a, b) != (i < j) {
				t.Fatalf("Less(%v, %v): %v", a, b, ids.Less(a, b))
			}
		}
	}
}

// TestP202LessAsPacked: of tokens that fit the packed numbers stand in the same order.
func TestP202LessAsPacked(t *testing.T) {
	r := rand.New(rand.NewSource(3))
	var l []api.Token
	for range 1 << 8 {
		l = append(l, api.Token{Flow: 1 + r.Intn(2), Run: r.Intn(2), Event: r.Intn(2), Turn: r.Intn(2)})
	}
	slices.SortFunc(l, func(a, b api.Token) int {
		if ids.Less(a, b) {
			return -1
		}
		if ids.Less(b, a) {
			return 1
		}
		return 0
	})
	for i, k := range l[1:] {
		if ids.Token(l[i]) > ids.Token(k) {
			t.Errorf("%v stands ahead of %v", l[i], k)
		}
	}
}
