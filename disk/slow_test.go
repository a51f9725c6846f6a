package disk_test

import (
	"bytes"
	"slices"
	"testing"

	"teasel/api"
	"teasel/disk"
	"teasel/draws"
)

// slowDisk keeps each sector and each pending write apart, and reads by going through them all.
type slowDisk struct {
	kept    [][]byte
	pending []slowWrite
	off     bool
	armed   bool
	ahead   int // writes ahead of the armed one
	keep    []bool
	writes  int
}

type slowWrite struct {
	sector int
	b      []byte
}

func (d *slowDisk) write(sector int, b []byte) api.Errno {
	switch {
	case d.off:
		return api.ErrDown
	case sector < 0 || sector >= len(d.kept) || len(b) != size:
		return api.ErrArg
	case d.armed && d.ahead == 0:
		d.cut(d.keep)
		return api.ErrDown
	}
	d.ahead--
	d.writes++
	d.pending = append(d.pending, slowWrite{sector, b})
	return api.OK
}

func (d *slowDisk) read(sector int) ([]byte, api.Errno) {
	switch {
	case d.off:
		return nil, api.ErrDown
	case sector < 0 || sector >= len(d.kept):
		return nil, api.ErrArg
	}
	b := d.kept[sector]
	for _, w := range d.pending {
		if w.sector == sector {
			b = w.b
		}
	}
	return b, api.OK
}

func (d *slowDisk) sync() api.Errno {
	if d.off {
		return api.ErrDown
	}
	d.settle(slices.Repeat([]bool{true}, len(d.pending)))
	return api.OK
}

func (d *slowDisk) arm(n int, keep []bool) {
	d.armed, d.ahead, d.keep = true, max(n-1, 0), keep
}

func (d *slowDisk) cut(keep []bool) {
	d.off, d.armed = true, false
	d.settle(keep)
}

func (d *slowDisk) settle(keep []bool) {
	for i, w := range d.pending {
		if i < len(keep) && keep[i] {
			d.kept[w.sector] = w.b
		}
	}
	d.pending = nil
}

// pair is a disk and a slow one that are called alike.
type pair struct {
	t    *testing.T
	s    *draws.Source
	d    *disk.Disk
	slow *slowDisk
}

func newPair(t *testing.T, seed uint64) *pair {
	p := &pair{t: t, s: draws.New(seed), slow: &slowDisk{}}
	n := p.s.Between(1, 5)
	p.d = newDisk(t, n)
	for range n {
		p.slow.kept = append(p.slow.kept, make([]byte, size))
	}
	return p
}

func (p *pair) someKeep() []bool {
	keep := make([]bool, p.s.Below(8))
	for i := range keep {
		keep[i] = p.s.Below(2) == 1
	}
	return keep
}

func (p *pair) someBytes() []byte {
	if p.s.Below(10) == 0 {
		return make([]byte, p.s.Between(0, 2*size))
	}
	return bytes.Repeat([]byte{byte(p.s.Next())}, size)
}

func (p *pair) step() {
	sector := p.s.Between(-1, len(p.slow.kept))
	switch p.s.Below(16) {
	case 0:
		p.want("Sync", p.d.Sync(), p.slow.sync())
	case 1:
		keep := p.someKeep()
		p.d.Cut(keep...)
		p.slow.cut(keep)
	case 2:
		n, keep := p.s.Between(-1, 6), p.someKeep()
		p.d.Arm(n, keep...)
		p.slow.arm(n, keep)
	case 3, 4:
		p.d.On()
		p.slow.off = false
	case 5, 6, 7:
		b, e := p.d.Read(sector)
		want, wantE := p.slow.read(sector)
		p.want("Read", e, wantE)
		if !bytes.Equal(b, want) {
			p.t.Fatalf("Read(%d): %v; want %v", sector, b, want)
		}
	default:
		b := p.someBytes()
		p.want("Write", p.d.Write(sector, b), p.slow.write(sector, b))
	}
}

func (p *pair) want(call string, e, want api.Errno) {
	p.t.Helper()
	if e != want {
		p.t.Fatalf("%s: %v; want %v", call, e, want)
	}
}

func TestP403AgainstSlowDisk(t *testing.T) {
	for seed := range uint64(200) {
		p := newPair(t, seed)
		for range 200 {
			p.step()
			wantCounts(t, p.d, p.slow.off, len(p.slow.pending), p.slow.writes)
			if !bytes.Equal(p.d.Bytes(), slices.Concat(p.slow.kept...)) {
				t.Fatalf("Bytes: %v; want %v", p.d.Bytes(), p.slow.kept)
			}
			if t.Failed() {
				t.Fatalf("seed %d", seed)
			}
		}
	}
}
