package chunk

import (
	"math"

	"teasel/api"
	"teasel/codec"
)

// mostNumber bounds the numbers of a piece that is read; which of them fit together a builder asks.
const mostNumber = 1 << 62

// Encode lays a piece in a frame.
func Encode(p Piece) []byte {
	w := codec.NewWriter()
	w.Int(int64(p.Id)).Int(int64(p.At)).Int(int64(p.Total)).Int(int64(p.Sum))
	return codec.Frame(w.Bytes(p.Data).Done())
}

// Decode reads what Encode laid.
func Decode(b []byte) (Piece, error) {
	p, err := decode(b)
	return p, broken(0, err)
}

// decode tells what is wrong within the frame ahead of what is left behind it.
func decode(b []byte) (Piece, error) {
	body, n, err := codec.ReadFrame(b)
	if err != nil {
		return Piece{}, err
	}
	r := codec.NewReader(body)
	p := readPiece(r)
	if err := r.End(); err != nil {
		return Piece{}, err
	}
	if n < len(b) {
		return Piece{}, api.ErrForm
	}
	return p, nil
}

func readPiece(r *codec.Reader) Piece {
	var p Piece
	p.Id = r.Between("piece", 0, mostNumber)
	p.At = r.Between("piece", 0, mostNumber)
	p.Total = r.Between("piece", 0, mostNumber)
	p.Sum = uint32(r.Between("piece", 0, math.MaxUint32))
	p.Data = r.Bytes("data", mostSize)
	return p
}
