package ids_test

import (
	"math"
	"math/big"
	"math/rand"
	"testing"

	"teasel/ids"
)

// grown is the state of a source that began at 0 and drew n numbers (chapter 3): for what its
// mixing makes of these there are numbers known everywhere.
func grown(n uint64) int { return int(n * 0x9E3779B97F4A7C15) }

func TestP201Hash(t *testing.T) {
	for _, c := range []struct {
		flow int
		want uint64
	}{
		{0, 0},
		{1, 0x5692161D100B05E5},
		{grown(1), 0xE220A8397B1DCDAF},
		{grown(2), 0x6E789E6AA1B965F4},
		{grown(3), 0x06C45D188009454F},
		{grown(4), 0xF88BB8A8724C81EC},
	} {
		if v := ids.Hash(c.flow); v != c.want {
			t.Errorf("Hash(%d): %X; want %X", c.flow, v, c.want)
		}
	}
}

// flows are some of each length in bits, of both signs.
func flows() []int {
	l := []int{0, math.MinInt}
	r := rand.New(rand.NewSource(1))
	for bits := range 63 {
		low := 1 << bits
		for _, v := range []int{low, low - 1 + low, low + r.Intn(low)} {
			l = append(l, v, -v, -v-1)
		}
	}
	return l
}

// slowHash does what is promised with numbers that do not wrap by themselves.
func slowHash(flow int) *big.Int {
	all := new(big.Int).Lsh(big.NewInt(1), 64)
	v := new(big.Int).Mod(big.NewInt(int64(flow)), all)
	for _, step := range []struct {
		by    uint
		times string
	}{{30, "BF58476D1CE4E5B9"}, {27, "94D049BB133111EB"}, {31, "1"}} {
		factor, _ := new(big.Int).SetString(step.times, 16)
		v.Xor(v, new(big.Int).Rsh(v, step.by))
		v.Mod(v.Mul(v, factor), all)
	}
	return v
}

func TestP201HashAgainstBig(t *testing.T) {
	for _, flow := range flows() {
		if v, want := ids.Hash(flow), slowHash(flow); !want.IsUint64() || v != want.Uint64() {
			t.Errorf("Hash(%d): %X; want %X", flow, v, want)
		}
	}
}

func TestP201Shard(t *testing.T) {
	for _, flow := range flows() {
		for _, groups := range []int{1, 2, 3, 7, 8, 1 << 20, math.MaxInt} {
			want := new(big.Int).Mod(slowHash(flow), big.NewInt(int64(groups)))
			if n := ids.Shard(flow, groups); int64(n) != want.Int64() {
				t.Errorf("Shard(%d, %d): %d; want %d", flow, groups, n, want)
			}
		}
		for _, groups := range []int{0, -1, -8, math.MinInt} {
			if n := ids.Shard(flow, groups); n != 0 {
				t.Errorf("Shard(%d, %d): %d; want 0", flow, groups, n)
			}
		}
	}
}

// TestP201ShardUpperHalf: a hash of 1 << 63 and more is no number below 0.
func TestP201ShardUpperHalf(t *testing.T) {
	if n := ids.Shard(grown(1), 10); n != 0xE220A8397B1DCDAF%10 {
		t.Errorf("%d", n)
	}
}

func TestP201ListShard(t *testing.T) {
	for _, c := range []struct{ list, turn, groups, want int }{
		{5, 3, 4, 0},
		{5, 2, 4, 3},
		{0, 0, 8, 0},
		{7, 0, 8, 7},
		{0, 7, 8, 7},
		{7, 1, 8, 0},
		{9, 9, 1, 0},
		{1, 2, math.MaxInt, 3},
		{5, -2, 8, 3},
		{3, -3, 10, 0},
		{-1, 0, 10, 5}, // 18446744073709551615
		{0, -3, 10, 3},
		{2, -3, 7, 1},
		{-1, -1, 10, 4},
		{math.MaxInt, 1, 10, 8}, // 9223372036854775808
		{math.MaxInt, math.MaxInt, 10, 4},
		{math.MinInt, math.MinInt, 10, 0},
		{math.MinInt, math.MinInt + 3, 10, 3},
		{5, 3, 0, 0},
		{5, 3, -1, 0},
		{5, 3, math.MinInt, 0},
	} {
		if n := ids.ListShard(c.list, c.turn, c.groups); n != c.want {
			t.Errorf("ListShard(%d, %d, %d): %d; want %d", c.list, c.turn, c.groups, n, c.want)
		}
	}
}
