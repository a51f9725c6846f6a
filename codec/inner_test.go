package codec

import (
	"errors"
	"testing"

	"teasel/api"
)

func TestTryPassesOtherPanicsOn(t *testing.T) {
	other := errors.New("a mistake")
	for _, p := range []any{"a word", other} {
		func() {
			defer func() {
				if got := recover(); got != p {
					t.Errorf("panic %v; want %v", got, p)
				}
			}()
			try(NewReader(nil), "x", func() int { panic(p) })
		}()
	}
}

func TestTryFindsWrappedErrnos(t *testing.T) {
	r := NewReader([]byte("ab"))
	r.at = 1
	if v := try(r, "x", func() int { panic(&Fault{Err: api.ErrLost}) }); v != 0 {
		t.Errorf("%d", v)
	}
	if r.fault != (Fault{Err: api.ErrLost, At: 1, What: "x"}) {
		t.Errorf("%v", r.fault)
	}
}
