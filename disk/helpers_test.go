package disk_test

import (
	"bytes"
	"testing"

	"teasel/api"
	"teasel/disk"
)

const size = 64

// fill is what a sector has that was written with c: unlike bytes, of which each tells its place.
func fill(c byte) []byte {
	b := make([]byte, size)
	for i := range b {
		b[i] = c + byte(i)
	}
	return b
}

func newDisk(t *testing.T, sectors int) *disk.Disk {
	t.Helper()
	d, e := disk.New(sectors, size)
	if e != api.OK {
		t.Fatalf("New(%d, %d): %v", sectors, size, e)
	}
	return d
}

func wantWrite(t *testing.T, d *disk.Disk, sector int, b []byte, want api.Errno) {
	t.Helper()
	if e := d.Write(sector, b); e != want {
		t.Errorf("Write(%d, %d bytes): %v; want %v", sector, len(b), e, want)
	}
}

func wantSync(t *testing.T, d *disk.Disk, want api.Errno) {
	t.Helper()
	if e := d.Sync(); e != want {
		t.Errorf("Sync: %v; want %v", e, want)
	}
}

// wantReads holds all sectors to be read so; 0 stands for one of zeros.
func wantReads(t *testing.T, d *disk.Disk, want ...byte) {
	t.Helper()
	for sector, c := range want {
		b, e := d.Read(sector)
		if e != api.OK || !bytes.Equal(b, sectorsOf(c)) {
			t.Errorf("Read(%d): %v, %v; want %v", sector, b, e, sectorsOf(c))
		}
	}
}

// wantKept holds all sectors to be kept so.
func wantKept(t *testing.T, d *disk.Disk, want ...byte) {
	t.Helper()
	if b := d.Bytes(); !bytes.Equal(b, sectorsOf(want...)) {
		t.Errorf("Bytes: %v; want %v", b, sectorsOf(want...))
	}
}

func sectorsOf(l ...byte) (all []byte) {
	for _, c := range l {
		if c == 0 {
			all = append(all, make([]byte, size)...)
		} else {
			all = append(all, fill(c)...)
		}
	}
	return all
}

func wantCounts(t *testing.T, d *disk.Disk, off bool, pending, writes int) {
	t.Helper()
	if d.Off() != off || d.Pending() != pending || d.Writes() != writes {
		t.Errorf("Off, Pending, Writes: %t, %d, %d; want %t, %d, %d", d.Off(), d.Pending(), d.Writes(), off, pending, writes)
	}
}
