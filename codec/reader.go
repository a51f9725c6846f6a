package codec

import (
	"bytes"
	"errors"
	"math"

	"teasel/api"
)

// mostBytes is how many bytes a number of 64 bits takes at most, seven bits a byte.
const mostBytes = 10

// Reader goes through a record's bytes.
type Reader struct {
	b     []byte
	at    int
	fault Fault // its Err is OK as long as all could be read
}

// NewReader copies b, for it outlasts the call.
func NewReader(b []byte) *Reader { return &Reader{b: bytes.Clone(b)} }

func (r *Reader) Int(what string) int64 { return try(r, what, r.number) }

func (r *Reader) Between(what string, lo, hi int) int {
	return try(r, what, func() int { return r.within(lo, hi) })
}

func (r *Reader) Bytes(what string, most int) []byte {
	return try(r, what, func() []byte { return r.run(most) })
}

// End keeps no Fault of its own: bytes that are left may still be read behind it.
func (r *Reader) End() error {
	if r.failed() {
		f := r.fault
		return &f
	}
	if r.at < len(r.b) {
		return &Fault{Err: api.ErrForm, At: r.at, What: "end"}
	}
	return nil
}

func (r *Reader) failed() bool { return !errors.Is(&r.fault, api.OK) }

// whole reads a number that fits into an int, which may be narrower than an int64.
func (r *Reader) whole(what string) int {
	return r.Between(what, math.MinInt, math.MaxInt)
}

// try takes one step of a reader, zero if it can't be taken. Steps panic with an Errno:
// what is read and where it began is known here, so here it becomes the Fault that stays.
func try[T any](r *Reader, what string, step func() T) (v T) {
	if r.failed() {
		return v
	}
	at := r.at
	defer func() {
		if p := recover(); p != nil {
			r.fault = Fault{Err: thrown(p), At: at, What: what}
		}
	}()
	return step()
}

// thrown tells the Errno that a step panicked with. Any other panic is a mistake in this
// package, not in the bytes, and goes on, lest it pass for a Fault of theirs.
func thrown(p any) api.Errno {
	if err, ok := p.(error); ok {
		var e api.Errno
		if errors.As(err, &e) {
			return e
		}
	}
	panic(p)
}

func (r *Reader) next() byte {
	if r.at == len(r.b) {
		panic(api.ErrShort)
	}
	c := r.b[r.at]
	r.at++
	return c
}

func (r *Reader) number() int64 {
	var u uint64
	for i := range mostBytes {
		c := r.next()
		u |= uint64(c&0x7f) << (7 * i)
		if c >= 0x80 {
			continue
		}
		if i > 0 && c == 0 || i == mostBytes-1 && c > 1 {
			panic(api.ErrForm)
		}
		return unfold(u)
	}
	panic(api.ErrForm)
}

func (r *Reader) within(lo, hi int) int {
	v := r.number()
	if v < int64(lo) || v > int64(hi) {
		panic(api.ErrForm)
	}
	return int(v)
}

func (r *Reader) run(most int) []byte {
	n := r.number()
	switch {
	case n < 0:
		panic(api.ErrForm)
	case n > int64(most):
		panic(api.ErrLong)
	case n > int64(len(r.b)-r.at):
		panic(api.ErrShort)
	}
	from := r.at
	r.at += int(n)
	return bytes.Clone(r.b[from:r.at])
}
