package disk_test

import (
	"bytes"
	"math"
	"testing"

	"teasel/api"
	"teasel/disk"
)

func TestP401New(t *testing.T) {
	for _, c := range [][2]int{
		{1, 64}, {1, 1024}, {2, 65}, {3, 100}, {1 << 14, 64}, {1<<14 - 1, 64}, {7, 1023}, {1 << 14, 1024},
	} {
		d, e := disk.New(c[0], c[1])
		if e != api.OK || d == nil {
			t.Fatalf("New%v: %v", c, e)
		}
		if sectors, size := d.Shape(); sectors != c[0] || size != c[1] {
			t.Errorf("New%v: Shape: %d, %d", c, sectors, size)
		}
		if !bytes.Equal(d.Bytes(), make([]byte, c[0]*c[1])) {
			t.Errorf("New%v: Bytes: %d of them, or one not 0", c, len(d.Bytes()))
		}
		wantCounts(t, d, false, 0, 0)
		for _, sector := range []int{0, c[0] / 2, c[0] - 1} {
			if b, e := d.Read(sector); e != api.OK || !bytes.Equal(b, make([]byte, c[1])) {
				t.Errorf("New%v: Read(%d): %v, %v", c, sector, b, e)
			}
		}
	}
}

func TestP401NewRefused(t *testing.T) {
	for _, c := range [][2]int{
		{0, 64}, {-1, 64}, {1<<14 + 1, 64}, {math.MinInt, 64}, {math.MaxInt, 64}, {1 << 32, 64},
		{1, 63}, {1, 1025}, {1, 0}, {1, -64}, {1, math.MinInt}, {1, math.MaxInt}, {1, 1<<32 + 64},
		{0, 0}, {-1, -1}, {1<<14 + 1, 1025}, {0, 1024}, {1 << 14, 63},
	} {
		if d, e := disk.New(c[0], c[1]); d != nil || e != api.ErrArg {
			t.Errorf("New%v: %v, %v; want arg", c, d, e)
		}
	}
}

// TestP401DisksApart (P7): what one disk is written is nothing to another one.
func TestP401DisksApart(t *testing.T) {
	a, b := newDisk(t, 2), newDisk(t, 2)
	a.Write(0, fill('a'))
	a.Sync()
	a.Write(1, fill('b'))
	a.Cut()
	wantCounts(t, b, false, 0, 0)
	wantReads(t, b, 0, 0)
	wantKept(t, b, 0, 0)
}

// TestP401BytesAreKept (W2): not what is pending; with the power off, too.
func TestP401BytesAreKept(t *testing.T) {
	d := newDisk(t, 3)
	d.Write(1, fill('a'))
	wantKept(t, d, 0, 0, 0)
	d.Sync()
	wantKept(t, d, 0, 'a', 0)
	d.Write(1, fill('b'))
	d.Write(2, fill('c'))
	wantKept(t, d, 0, 'a', 0)
	d.Cut(false, true)
	wantKept(t, d, 0, 'a', 'c')
	d.On()
	wantKept(t, d, 0, 'a', 'c')
}

func TestP402WriteIsPending(t *testing.T) {
	d := newDisk(t, 3)
	wantWrite(t, d, 2, fill('a'), api.OK)
	wantReads(t, d, 0, 0, 'a')
	wantCounts(t, d, false, 1, 1)
	wantWrite(t, d, 0, fill('b'), api.OK)
	wantWrite(t, d, 2, fill('c'), api.OK)
	wantReads(t, d, 'b', 0, 'c')
	wantCounts(t, d, false, 3, 3)
	wantKept(t, d, 0, 0, 0)
	wantWrite(t, d, 2, make([]byte, size), api.OK)
	wantReads(t, d, 'b', 0, 0)
	wantCounts(t, d, false, 4, 4)
}

// wrongWrites are of a disk of so many sectors.
func wrongWrites(sectors int) map[int][][]byte {
	good, short := fill('w'), [][]byte{nil, {}, {1}, make([]byte, size-1), make([]byte, size+1), make([]byte, 2*size)}
	wrong := map[int][][]byte{0: short, sectors - 1: short}
	for _, sector := range []int{-1, sectors, sectors + 1, math.MinInt, math.MaxInt, 1 << 58, 1 << 32} {
		wrong[sector] = append([][]byte{good}, short...)
	}
	return wrong
}

func TestP402WriteRefused(t *testing.T) {
	d := newDisk(t, 3)
	d.Write(0, fill('a'))
	d.Sync()
	d.Write(2, fill('b'))
	for sector, l := range wrongWrites(3) {
		for _, b := range l {
			wantWrite(t, d, sector, b, api.ErrArg)
		}
	}
	wantCounts(t, d, false, 1, 2)
	wantReads(t, d, 'a', 0, 'b')
	wantKept(t, d, 'a', 0, 0)
}

func TestP402WriteSizeOfItsDisk(t *testing.T) {
	for _, own := range []int{64, 65, 256, 1023, 1024} {
		d, _ := disk.New(2, own)
		for _, n := range []int{0, 63, 64, 65, 255, 256, 257, 1022, 1023, 1024, 1025, 2 * own} {
			want := api.ErrArg
			if n == own {
				want = api.OK
			}
			wantWrite(t, d, 1, make([]byte, n), want)
		}
	}
}

func TestP402ReadRefused(t *testing.T) {
	d := newDisk(t, 3)
	d.Write(1, fill('a'))
	for _, sector := range []int{-1, 3, 4, math.MinInt, math.MaxInt, 1 << 58, 1 << 32} {
		if b, e := d.Read(sector); b != nil || e != api.ErrArg {
			t.Errorf("Read(%d): %v, %v; want arg", sector, b, e)
		}
	}
}

// TestP402Down (P6): without power that is told ahead of what else is wrong.
func TestP402Down(t *testing.T) {
	d := newDisk(t, 3)
	d.Write(0, fill('a'))
	d.Sync()
	d.Write(1, fill('b'))
	d.Cut()
	for _, sector := range []int{0, 1, 2, 3, -1, math.MinInt, math.MaxInt} {
		for _, b := range [][]byte{fill('c'), nil, make([]byte, size-1), make([]byte, size+1)} {
			wantWrite(t, d, sector, b, api.ErrDown)
		}
		if b, e := d.Read(sector); b != nil || e != api.ErrDown {
			t.Errorf("Read(%d): %v, %v; want down", sector, b, e)
		}
	}
	wantSync(t, d, api.ErrDown)
	wantCounts(t, d, true, 0, 2)
	wantKept(t, d, 'a', 0, 0)
	if sectors, n := d.Shape(); sectors != 3 || n != size {
		t.Errorf("Shape: %d, %d", sectors, n)
	}
	d.On()
	wantReads(t, d, 'a', 0, 0)
	wantWrite(t, d, 1, fill('d'), api.OK)
	wantCounts(t, d, false, 1, 3)
	wantSync(t, d, api.OK)
	wantKept(t, d, 'a', 'd', 0)
}

func TestP402Sync(t *testing.T) {
	d := newDisk(t, 4)
	wantSync(t, d, api.OK)
	wantKept(t, d, 0, 0, 0, 0)
	d.Write(3, fill('a'))
	d.Write(0, fill('b'))
	d.Write(3, fill('c'))
	wantSync(t, d, api.OK)
	wantCounts(t, d, false, 0, 3)
	wantKept(t, d, 'b', 0, 0, 'c')
	wantReads(t, d, 'b', 0, 0, 'c')
	wantSync(t, d, api.OK)
	wantKept(t, d, 'b', 0, 0, 'c')
	d.Write(0, fill('d'))
	d.Cut(false)
	d.On()
	wantReads(t, d, 'b', 0, 0, 'c')
}

// TestP402BytesDoNotRunOver: the last and the first byte of each sector are its own.
func TestP402BytesDoNotRunOver(t *testing.T) {
	d := newDisk(t, 5)
	for sector := range 5 {
		d.Write(sector, bytes.Repeat([]byte{0xFF}, size))
	}
	d.Sync()
	d.Write(2, make([]byte, size))
	d.Sync()
	for sector := range 5 {
		want := bytes.Repeat([]byte{0xFF}, size)
		if sector == 2 {
			want = make([]byte, size)
		}
		if b, e := d.Read(sector); e != api.OK || !bytes.Equal(b, want) {
			t.Errorf("Read(%d): %v, %v", sector, b, e)
		}
	}
}

func TestP402GreatestDisk(t *testing.T) {
	const sectors, size = 1 << 14, 1024
	d, _ := disk.New(sectors, size)
	for sector := range sectors {
		b := make([]byte, size)
		b[0], b[1], b[size-1] = byte(sector), byte(sector>>8), 7
		wantWrite(t, d, sector, b, api.OK)
	}
	wantCounts(t, d, false, sectors, sectors)
	wantSync(t, d, api.OK)
	all := d.Bytes()
	for sector := range sectors {
		b := all[sector*size:][:size]
		if b[0] != byte(sector) || b[1] != byte(sector>>8) || b[2] != 0 || b[size-1] != 7 {
			t.Fatalf("sector %d: %v", sector, b)
		}
	}
}

// TestP1Declared: calls on a disk that New did not make end, too.
func TestP1Declared(t *testing.T) {
	var d disk.Disk
	wantWrite(t, &d, 0, nil, api.ErrArg)
	d.Read(0)
	d.Arm(1, true)
	d.Sync()
	d.Cut(true)
	d.On()
	d.Bytes()
	d.Shape()
	wantCounts(t, &d, false, 0, 0)
}
