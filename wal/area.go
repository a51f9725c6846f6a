package wal

import (
	"teasel/api"
	"teasel/disk"
)

const (
	leastSectors = 16
	halves       = 2
)

// area is the sectors that a log has: either half holds an edition of it, a sheet a sector.
type area struct {
	d     *disk.Disk
	at, n int
}

func (a area) isThere() bool {
	sectors, _ := a.d.Shape()
	return leastSectors <= a.n && a.n <= sectors && 0 <= a.at && a.at <= sectors-a.n
}

// half tells how many sectors a half has. Of an odd number the last one is left.
func (a area) half() int { return a.n / halves }

func (a area) size() int {
	_, size := a.d.Shape()
	return size
}

// piece tells how many bytes of records a sheet has.
func (a area) piece() int { return a.size() - sheetHead }

// capacity tells how many bytes of records a half has.
func (a area) capacity() int { return a.half() * a.piece() }

// most tells how many bytes a state may take as a record. An eighth of a half stays for changes: without it each of them could need a new edition.
func (a area) most() int { return a.capacity() - a.capacity()/8 }

// sector tells where a half's sheet lies.
func (a area) sector(half, place int) int { return a.at + half*a.half() + place }

// read tells what all sectors hold. Writes that others have left pending are settled ahead of that: what is read must not be lost later on.
func (a area) read() ([]sheet, error) {
	if !a.isThere() {
		return nil, api.ErrArg
	}
	if err := fault(a.d.Sync()); err != nil {
		return nil, err
	}
	l := make([]sheet, a.n)
	for i := range l {
		b, e := a.d.Read(a.at + i)
		if e != api.OK {
			return nil, e
		}
		l[i] = readSheet(b)
	}
	return l, nil
}

func (a area) sheetsOf(l []sheet, half int) []sheet {
	from, past := half*a.half(), (half+1)*a.half()
	return l[from:past:past]
}

// text tells the bytes of the edition that begins in a half: as far as its sheets are full, and one more. No sum tells where it ends: each sector was written whole or not at all, and of one edition all that was ever written to a place begins alike.
func (a area) text(l []sheet) []byte {
	var b []byte
	for place, s := range l {
		if s.edition != l[0].edition || s.place != place {
			break
		}
		b = append(b, s.bytes...)
		if len(s.bytes) < a.piece() {
			break
		}
	}
	return b
}

// newest tells the greatest number of an edition of which there is a sheet.
func newest(l []sheet) int {
	number := 0
	for _, s := range l {
		number = max(number, s.edition)
	}
	return number
}
