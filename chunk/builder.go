package chunk

import (
	"errors"

	"teasel/api"
	"teasel/codec"
)

// Builder puts pieces together.
type Builder struct {
	front *Piece // all that is there yet, as one piece that begins at 0; nil, if nothing is built
}

// NewBuilder makes one that builds nothing yet.
func NewBuilder() *Builder { return &Builder{} }

// Add takes a piece that begins no further on than what is there yet, and tells whether all is there now.
func (b *Builder) Add(p Piece) (bool, error) {
	front, e := join(b.built(), p)
	if err := broken(p.Id, e); err != nil {
		return false, err
	}
	b.front = &front
	return isWhole(front), nil
}

// Next tells which is built, and where the piece that it needs begins.
func (b *Builder) Next() (id, at int) {
	front := b.built()
	return front.Id, len(front.Data)
}

// Done hands out what is whole.
func (b *Builder) Done() ([]byte, error) {
	front := b.built()
	e := verdict(front)
	if !errors.Is(e, api.ErrNot) { // what is not whole yet may become so; else it is over, for good or ill
		b.Drop()
	}
	if err := broken(front.Id, e); err != nil {
		return nil, err
	}
	return front.Data, nil
}

// Drop forgets what is built.
func (b *Builder) Drop() { b.front = nil }

// built tells what is there yet. Of nothing it is one that is below each piece, and never whole.
func (b *Builder) built() Piece {
	if b.front == nil {
		return Piece{Id: -1, Total: -1}
	}
	return *b.front
}

// join tells what is there with p behind it.
func join(front, p Piece) (Piece, api.Errno) {
	switch {
	case !mayBe(p):
		return Piece{}, api.ErrArg
	case p.Id < front.Id:
		return Piece{}, api.ErrNot
	case p.Id > front.Id:
		front = Piece{Id: p.Id, Total: p.Total, Sum: p.Sum}
	case p.Total != front.Total || p.Sum != front.Sum:
		return Piece{}, api.ErrForm
	}
	if p.At > len(front.Data) {
		return Piece{}, api.ErrNot
	}
	known := min(len(front.Data)-p.At, len(p.Data))
	front.Data = append(front.Data, p.Data[known:]...)
	return front, api.OK
}

// mayBe holds At against a difference, as a sum with it might wrap round.
func mayBe(p Piece) bool {
	return p.Id >= 0 &&
		p.Total >= 0 && p.Total <= mostTotal &&
		p.At >= 0 && p.At <= p.Total-len(p.Data) &&
		(len(p.Data) > 0 || p.Total == 0)
}

func isWhole(front Piece) bool { return len(front.Data) == front.Total }

func verdict(front Piece) api.Errno {
	switch {
	case !isWhole(front):
		return api.ErrNot
	case codec.Sum(front.Data) != front.Sum:
		return api.ErrSum
	}
	return api.OK
}
