package disk_test

import (
	"math"
	"testing"

	"teasel/api"
	"teasel/disk"
)

// TestP403CutKeeps goes through all that may be kept of five writes, three of them to one sector, by lists that are too short and too long, too.
func TestP403CutKeeps(t *testing.T) {
	sectors := []int{1, 0, 1, 2, 1}
	for n := range 8 {
		for mask := range 1 << n {
			keep, want := make([]bool, n), []byte{0, 's', 0}
			for i := range keep {
				keep[i] = mask>>i&1 == 1
				if keep[i] && i < len(sectors) {
					want[sectors[i]] = 'a' + byte(i)
				}
			}
			for _, armed := range []bool{false, true} {
				d := newDisk(t, 3)
				d.Write(1, fill('s'))
				d.Sync()
				for i, sector := range sectors {
					d.Write(sector, fill('a'+byte(i)))
				}
				if armed {
					d.Arm(1, keep...)
					wantWrite(t, d, 0, fill('z'), api.ErrDown)
				} else {
					d.Cut(keep...)
				}
				wantCounts(t, d, true, 0, 6)
				wantKept(t, d, want...)
				d.On()
				wantCounts(t, d, false, 0, 6)
				wantReads(t, d, want...)
				wantSync(t, d, api.OK)
				wantKept(t, d, want...)
			}
		}
	}
}

func TestP403CutLosesAll(t *testing.T) {
	d := newDisk(t, 2)
	d.Write(0, fill('a'))
	d.Write(1, fill('b'))
	d.Cut()
	wantCounts(t, d, true, 0, 2)
	wantKept(t, d, 0, 0)
	d.On()
	wantReads(t, d, 0, 0)
}

func TestP403CutTwice(t *testing.T) {
	d := newDisk(t, 2)
	d.Write(0, fill('a'))
	d.Cut(false)
	d.Cut(true, true)
	wantCounts(t, d, true, 0, 1)
	wantKept(t, d, 0, 0)
	d.On()
	d.Write(1, fill('b'))
	d.Cut(true)
	d.Cut()
	wantKept(t, d, 0, 'b')
}

func TestP403On(t *testing.T) {
	d := newDisk(t, 2)
	d.Write(0, fill('a'))
	d.On() // with power, it is nothing
	wantCounts(t, d, false, 1, 1)
	wantReads(t, d, 'a', 0)
	d.Cut()
	d.On()
	d.On()
	wantCounts(t, d, false, 0, 1)
	wantWrite(t, d, 0, fill('b'), api.OK)
}

// TestP403ArmAtNth: the writes ahead of the n-th are OK; the n-th itself is none.
func TestP403ArmAtNth(t *testing.T) {
	for n, ahead := range map[int]int{
		1: 0, 2: 1, 3: 2, 9: 8, 0: 0, -1: 0, -7: 0, math.MinInt: 0,
	} {
		d := newDisk(t, 10)
		d.Write(9, fill('y'))
		d.Sync()
		d.Arm(n, true, true, true, true, true, true, true, true, true, true)
		want := make([]byte, 10)
		want[9] = 'y'
		for i := range ahead {
			wantWrite(t, d, i, fill('a'+byte(i)), api.OK)
			want[i] = 'a' + byte(i)
		}
		wantCounts(t, d, false, ahead, 1+ahead)
		wantWrite(t, d, 9, fill('z'), api.ErrDown)
		wantCounts(t, d, true, 0, 1+ahead)
		wantKept(t, d, want...)
	}
}

func TestP403ArmFarAway(t *testing.T) {
	d := newDisk(t, 1)
	d.Arm(math.MaxInt, true)
	for range 1000 {
		wantWrite(t, d, 0, fill('a'), api.OK)
	}
	wantCounts(t, d, false, 1000, 1000)
}

// TestP403ArmCountsNoOtherError: writes that are refused, or come without power, are not counted.
func TestP403ArmCountsNoOtherError(t *testing.T) {
	d := newDisk(t, 3)
	d.Arm(2, true)
	for sector, l := range wrongWrites(3) {
		for _, b := range l {
			wantWrite(t, d, sector, b, api.ErrArg)
		}
	}
	wantWrite(t, d, 0, fill('a'), api.OK)
	wantWrite(t, d, 3, fill('b'), api.ErrArg)
	wantWrite(t, d, 0, nil, api.ErrArg)
	wantCounts(t, d, false, 1, 1)
	wantWrite(t, d, 0, fill('c'), api.ErrDown)
	wantKept(t, d, 'a', 0, 0)
}

// TestP403ArmWithoutPower: it holds from the time on when the power is there again.
func TestP403ArmWithoutPower(t *testing.T) {
	d := newDisk(t, 2)
	d.Cut()
	d.Arm(2, true)
	for range 5 {
		wantWrite(t, d, 0, fill('a'), api.ErrDown)
	}
	d.On()
	wantWrite(t, d, 0, fill('b'), api.OK)
	wantWrite(t, d, 1, fill('c'), api.ErrDown)
	wantKept(t, d, 'b', 0)
}

// TestP403ArmCountsOnOverSync: only writes are counted, and what was pending when it was armed is cut too.
func TestP403ArmCountsOnOverSync(t *testing.T) {
	d := newDisk(t, 3)
	d.Write(0, fill('a'))
	d.Arm(3, false, true)
	d.Read(0)
	d.Sync()
	d.On()
	d.Write(1, fill('b'))
	d.Sync()
	d.Write(0, fill('c'))
	wantCounts(t, d, false, 1, 3)
	wantWrite(t, d, 0, fill('d'), api.ErrDown)
	wantKept(t, d, 'a', 'b', 0)

	d = newDisk(t, 3)
	d.Write(0, fill('a'))
	d.Arm(2, true, false)
	d.Write(1, fill('b'))
	wantWrite(t, d, 2, fill('c'), api.ErrDown)
	wantKept(t, d, 'a', 0, 0)
}

// TestP403ArmAnew: what was armed ahead is no more, sooner or later, with what it kept.
func TestP403ArmAnew(t *testing.T) {
	for _, c := range [][2]int{{1, 3}, {3, 1}, {2, 2}, {5, 0}} {
		d := newDisk(t, 4)
		d.Arm(c[0], true, true, true, true)
		d.Arm(c[1], false, true)
		want := make([]byte, 4)
		for i := range max(c[1], 1) - 1 {
			wantWrite(t, d, i, fill('a'+byte(i)), api.OK)
			if i == 1 {
				want[i] = 'b'
			}
		}
		wantWrite(t, d, 3, fill('z'), api.ErrDown)
		wantKept(t, d, want...)
		d.On()
		for range 8 {
			wantWrite(t, d, 3, fill('y'), api.OK)
		}
	}
}

// TestP403ArmedOnce: the power goes once, and stays when it comes back.
func TestP403ArmedOnce(t *testing.T) {
	d := newDisk(t, 1)
	d.Arm(1, true)
	wantWrite(t, d, 0, fill('a'), api.ErrDown)
	d.On()
	for range 4 {
		wantWrite(t, d, 0, fill('b'), api.OK)
	}
	wantCounts(t, d, false, 4, 4)
	wantReads(t, d, 'b')
}

// TestP403CutDisarms: ahead of On, and without power, too.
func TestP403CutDisarms(t *testing.T) {
	for _, down := range []bool{false, true} {
		d := newDisk(t, 1)
		if down {
			d.Cut()
		}
		d.Arm(2, true)
		d.Cut()
		d.On()
		for range 4 {
			wantWrite(t, d, 0, fill('a'), api.OK)
		}
		wantCounts(t, d, false, 4, 4)
	}
}

// TestP403Writes: what is lost was OK, too; what is refused was not.
func TestP403Writes(t *testing.T) {
	d := newDisk(t, 1)
	for i, c := range []struct {
		call    func()
		pending int
		writes  int
	}{
		{func() {}, 0, 0},
		{func() { d.Write(0, fill('a')) }, 1, 1},
		{func() { d.Write(0, fill('a')) }, 2, 2},
		{func() { d.Write(1, fill('a')) }, 2, 2},
		{func() { d.Read(0) }, 2, 2},
		{func() { d.Arm(9) }, 2, 2},
		{func() { d.Sync() }, 0, 2},
		{func() { d.Sync() }, 0, 2},
		{func() { d.Write(0, fill('b')) }, 1, 3},
		{func() { d.Cut() }, 0, 3},
		{func() { d.Write(0, fill('b')) }, 0, 3},
		{func() { d.On() }, 0, 3},
		{func() { d.Write(0, fill('b')) }, 1, 4},
		{func() { d.Arm(1, true) }, 1, 4},
		{func() { d.Write(0, fill('b')) }, 0, 4},
	} {
		c.call()
		if d.Pending() != c.pending || d.Writes() != c.writes {
			t.Errorf("call %d: %d pending, %d written; want %d, %d", i, d.Pending(), d.Writes(), c.pending, c.writes)
		}
	}
}

// TestP2KeepIsNotKept: what Arm was handed may be changed behind it; what Cut was handed is not changed.
func TestP2KeepIsNotKept(t *testing.T) {
	d, keep := newDisk(t, 2), []bool{true, false, true}[:2]
	d.Write(0, fill('a'))
	d.Write(1, fill('b'))
	d.Arm(1, keep...)
	keep[0], keep[1] = false, true
	wantWrite(t, d, 0, fill('c'), api.ErrDown)
	wantKept(t, d, 'a', 0)
	d.On()
	d.Write(0, fill('d'))
	d.Cut(keep...)
	if keep[0] || !keep[1] || !keep[:3][2] {
		t.Errorf("changed: %v", keep[:3])
	}
}

// TestP2WritesAreCopied: bytes that were written may be changed behind that; they are not changed, nor the room behind them.
func TestP2WritesAreCopied(t *testing.T) {
	room := append(fill('a'), fill('r')...)
	b := room[:size]
	check := func(d *disk.Disk) {
		t.Helper()
		for i, c := range append(fill('a'), fill('r')...) {
			if room[i] != c {
				t.Fatalf("byte %d is changed", i)
			}
		}
	}
	d := newDisk(t, 2)
	wantWrite(t, d, 0, b, api.OK)
	wantWrite(t, d, 1, b, api.OK)
	check(d)
	for i := range room {
		room[i] = 9
	}
	wantReads(t, d, 'a', 'a')
	d.Sync()
	wantKept(t, d, 'a', 'a')
	copy(room, append(fill('a'), fill('r')...))
	d.Write(0, fill('b'))
	d.Sync()
	d.Cut()
	check(d)
}

// TestP2AnswersAreNew: what was read, pending or kept, is not the disk's any more, its spare room too.
func TestP2AnswersAreNew(t *testing.T) {
	d := newDisk(t, 3)
	for i := range 3 {
		d.Write(i, fill('a'+byte(i)))
	}
	spoil := func() {
		first, _ := d.Read(1)
		second, _ := d.Read(1)
		all := d.Bytes()
		for _, b := range [][]byte{first, all} {
			for i := range b[:cap(b)] {
				b[:cap(b)][i] = 9
			}
		}
		if second[0] != 'b' || second[size-1] != fill('b')[size-1] {
			t.Errorf("two answers share: %v", second)
		}
		wantReads(t, d, 'a', 'b', 'c')
	}
	spoil()
	wantKept(t, d, 0, 0, 0)
	d.Sync()
	spoil()
	wantKept(t, d, 'a', 'b', 'c')
	before, _ := d.Read(1)
	all := d.Bytes()
	d.Write(1, fill('z'))
	d.Sync()
	if before[0] != 'b' || all[size] != 'b' {
		t.Error("an answer goes with the disk")
	}
}
