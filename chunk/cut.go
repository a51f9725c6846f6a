package chunk

import (
	"bytes"

	"teasel/api"
	"teasel/codec"
)

// Cut makes pieces of data, of size bytes each, the last one of fewer.
func Cut(id int, data []byte, size int) ([]Piece, error) {
	if err := broken(id, mayCut(id, data, size)); err != nil {
		return nil, err
	}
	return cut(id, data, size), nil
}

func mayCut(id int, data []byte, size int) api.Errno {
	switch {
	case id < 0 || size < 1 || size > mostSize:
		return api.ErrArg
	case len(data) > mostTotal:
		return api.ErrLong
	}
	return api.OK
}

// cut goes through a copy of data, of which each piece has a stretch of its own. There is a piece of no data, too: who puts pieces together hears of nothing else.
func cut(id int, data []byte, size int) []Piece {
	p := Piece{Id: id, Total: len(data), Sum: codec.Sum(data)}
	rest := bytes.Clone(data)
	l := make([]Piece, 0, len(data)/size+1)
pieces:
	for {
		switch {
		case len(rest) <= size:
			p.Data = rest
			break pieces
		default:
			p.Data, rest = rest[:size:size], rest[size:]
		}
		l = append(l, p)
		p.At += size
	}
	return append(l, p)
}
