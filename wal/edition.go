package wal

import (
	"bytes"
	"slices"

	"teasel/api"
)

// edition is a log as it is written to a half of its area: all of it as the first record, then a record a change. Each has a number that no other one on the disk has; so of what is read of it, be there ever so many lost writes, some stretch from the beginning is what was written, and nothing else is taken for it. Its newest whole one is the log.
type edition struct {
	half   int
	number int
	from   int    // the place of the first sheet that is not known to last
	loose  []byte // the bytes from that sheet on
	shut   bool   // no record may be added: there may be other bytes behind its end
	safe   bool   // its first record is known to last
}

// add answers ErrFull, if there is no place for one more record. A record that was not written to its end can't be whole on the disk: each of its sheets has some of its bytes.
func (x *edition) add(a area, record []byte) error {
	piece := a.piece()
	if x.shut || x.from*piece+len(x.loose)+len(record) > a.capacity() {
		return api.ErrFull
	}
	text := append(x.loose, record...)
	for i := len(x.loose) / piece; i*piece < len(text); i++ {
		b := x.sheet(text, i, piece).lay(a.size())
		if err := fault(a.d.Write(a.sector(x.half, x.from+i), b)); err != nil {
			x.shut = true
			return err
		}
	}
	x.loose = text
	return nil
}

// sheet tells the i-th one of those that text is laid on.
func (x *edition) sheet(text []byte, i, piece int) sheet {
	return sheet{x.number, x.from + i, text[i*piece : min((i+1)*piece, len(text))]}
}

// stands tells whether what was written, and is not known to last, is there.
func (x *edition) stands(a area) bool {
	piece := a.piece()
	for i := 0; i*piece < len(x.loose); i++ {
		b, e := a.d.Read(a.sector(x.half, x.from+i))
		if e != api.OK || !bytes.Equal(b, x.sheet(x.loose, i, piece).lay(a.size())) {
			return false
		}
	}
	return true
}

// settle is told that all of it lasts. The last sheet, if it is not full, will be written again, with what it has.
func (x *edition) settle(a area) {
	full := len(x.loose) / a.piece()
	x.from += full
	x.loose = slices.Clone(x.loose[full*a.piece():])
	x.safe = true
}
