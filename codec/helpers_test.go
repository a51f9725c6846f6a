package codec_test

import (
	"errors"
	"testing"

	"teasel/api"
	"teasel/codec"
)

// wantFault holds an error against the Fault that is promised, and asks for it in each way.
func wantFault(t *testing.T, err error, e api.Errno, at int, what string) {
	t.Helper()
	var f *codec.Fault
	if !errors.As(err, &f) {
		t.Fatalf("%v is no Fault; want %v in %s at %d", err, e, what, at)
	}
	if f.Err != e || f.At != at || f.What != what {
		t.Errorf("%v; want %v in %s at %d", err, e, what, at)
	}
	if !errors.Is(err, e) || f.Unwrap() != error(e) {
		t.Errorf("%v does not wrap %v", err, e)
	}
}

// scribble overwrites a list and its spare room.
func scribble(b []byte) {
	b = b[:cap(b)]
	for i := range b {
		b[i] = 0xEE
	}
}

// roomy is s with spare room behind it, and a check that neither was changed.
func roomy(t *testing.T, s string) (b []byte, check func()) {
	whole := append([]byte(s), "spare room"...)
	before := string(whole)
	return whole[:len(s)], func() {
		t.Helper()
		if string(whole) != before {
			t.Errorf("P2: what was handed in was changed: % x", whole)
		}
	}
}
