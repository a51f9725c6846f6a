// Package codec: records as bytes. See doc/01-codec.md.
package codec

import (
	"strconv"

	"teasel/api"
)

// Fault is what cannot be read.
type Fault struct {
	Err  api.Errno
	At   int
	What string
}

func (f *Fault) Error() string {
	return f.Err.Error() + " in " + f.What + " at " + strconv.Itoa(f.At)
}

func (f *Fault) Unwrap() error { return f.Err }
