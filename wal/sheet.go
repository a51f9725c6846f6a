package wal

import "teasel/codec"

const (
	// sheetHead is how many of a sector's bytes are none of records, at most: 12 of a frame, 6 of an edition, 2 of a place, 2 of a count.
	sheetHead    = 12 + 6 + 2 + 2
	mostEditions = 1 << 40
)

// sheet is what a sector holds: a stretch of an edition's bytes, and whose it is. What the bytes are can't make it another one's.
type sheet struct {
	edition, place int
	bytes          []byte
}

// lay tells the bytes of a sector.
func (s sheet) lay(size int) []byte {
	body := codec.NewWriter().Int(int64(s.edition)).Int(int64(s.place)).Bytes(s.bytes).Done()
	sector := make([]byte, size)
	copy(sector, codec.Frame(body))
	return sector
}

// readSheet tells a sheet of edition 0, of which there is none, if the sector holds no sheet.
func readSheet(sector []byte) sheet {
	body, _, err := codec.ReadFrame(sector)
	if err != nil {
		return sheet{}
	}
	var s sheet
	r := codec.NewReader(body)
	s.edition = r.Between("edition", 1, mostEditions)
	s.place = r.Between("place", 0, mostEditions)
	s.bytes = r.Bytes("bytes", len(body))
	if r.End() != nil {
		return sheet{}
	}
	return s
}
