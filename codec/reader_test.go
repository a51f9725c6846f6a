package codec_test

import (
	"bytes"
	"errors"
	"math"
	"strings"
	"testing"

	"teasel/api"
	"teasel/codec"
)

const high = "\xff\xff\xff\xff\xff\xff\xff\xff\xff" // nine bytes, all with the highest bit

func TestP102IntBack(t *testing.T) {
	w := codec.NewWriter()
	for _, v := range numbers() {
		w.Int(v)
	}
	r := codec.NewReader(w.Done())
	for _, v := range numbers() {
		if x := r.Int("v"); x != v {
			t.Errorf("Int: %d; want %d", x, v)
		}
	}
	if err := r.End(); err != nil {
		t.Error(err)
	}
}

// TestP102IntFaults reads each row behind one byte, so that At is not 0 by itself.
func TestP102IntFaults(t *testing.T) {
	for _, c := range []struct {
		b string
		e api.Errno
	}{
		{"", api.ErrShort},
		{"\x80", api.ErrShort},
		{high[:2], api.ErrShort},
		{high, api.ErrShort},
		{"\x80\x80\x80\x80\x80\x80\x80\x80\x80", api.ErrShort},
		{high + "\x80", api.ErrForm},
		{high + "\xff", api.ErrForm},
		{high + "\x80\x01", api.ErrForm},
		{high + "\x80\x80\x80", api.ErrForm},
		{high + "\x02", api.ErrForm},
		{high + "\x03", api.ErrForm},
		{high + "\x7f", api.ErrForm},
		{high + "\x00", api.ErrForm},
		{"\x80\x00", api.ErrForm},
		{"\xff\x80\x00", api.ErrForm},
		{"\x81\x00\x02", api.ErrForm},
	} {
		for name, read := range map[string]func(r *codec.Reader) bool{
			"Int":     func(r *codec.Reader) bool { return r.Int("x") == 0 },
			"Between": func(r *codec.Reader) bool { return r.Between("x", math.MinInt, math.MaxInt) == 0 },
			"Bytes":   func(r *codec.Reader) bool { return len(r.Bytes("x", math.MaxInt)) == 0 },
		} {
			r := codec.NewReader([]byte("\x02" + c.b))
			if r.Int("one") != 1 || !read(r) {
				t.Errorf("%s of % x: no zero", name, c.b)
			}
			wantFault(t, r.End(), c.e, 1, "x")
		}
	}
}

func TestP102IntOneWayOnly(t *testing.T) {
	for n := range 1 << 16 {
		b := []byte{byte(n), byte(n >> 8)}
		r := codec.NewReader(b)
		v := r.Int("v")
		err := r.End()
		if err == nil && !bytes.Equal(codec.NewWriter().Int(v).Done(), b) {
			t.Fatalf("% x is read as %d, which is written otherwise", b, v)
		}
		var f *codec.Fault
		if right := b[0] >= 0x80 && b[1] > 0 && b[1] < 0x80; right != (err == nil) || !right && !errors.As(err, &f) {
			t.Fatalf("% x: %v", b, err)
		}
	}
}

func TestP102Between(t *testing.T) {
	for _, c := range []struct {
		v      int64
		lo, hi int
		right  bool
	}{
		{5, 5, 9, true}, {9, 5, 9, true}, {7, 7, 7, true}, {-3, -3, -1, true}, {0, 0, 0, true},
		{4, 5, 9, false}, {10, 5, 9, false}, {-4, -3, -1, false}, {7, 9, 5, false}, {-1, 0, math.MaxInt, false},
		{math.MaxInt64, 0, 1 << 40, false}, {math.MinInt64, -1 << 40, 0, false},
		{math.MaxInt64, math.MinInt, math.MaxInt, true}, {math.MinInt64, math.MinInt, math.MaxInt, true},
	} {
		b := codec.NewWriter().Int(1).Int(c.v).Done()
		r := codec.NewReader(b)
		r.Int("one")
		x := r.Between("v", c.lo, c.hi)
		if !c.right {
			if x != 0 {
				t.Errorf("Between(%d, %d) of %d: %d; want 0", c.lo, c.hi, c.v, x)
			}
			wantFault(t, r.End(), api.ErrForm, 1, "v")
		} else if int64(x) != c.v || r.End() != nil {
			t.Errorf("Between(%d, %d) of %d: %d, %v", c.lo, c.hi, c.v, x, r.End())
		}
	}
}

func TestP102Bytes(t *testing.T) {
	long := strings.Repeat("y", 200)
	r := codec.NewReader(codec.NewWriter().Bytes(nil).Bytes([]byte("ab")).Bytes([]byte(long)).Int(3).Done())
	if x := r.Bytes("a", 0); len(x) != 0 {
		t.Errorf("%q", x)
	}
	if x := r.Bytes("b", 2); string(x) != "ab" {
		t.Errorf("%q", x)
	}
	if x := r.Bytes("c", math.MaxInt); string(x) != long {
		t.Errorf("%q", x)
	}
	if r.Int("d") != 3 || r.End() != nil {
		t.Error(r.End())
	}
}

func TestP102BytesFaults(t *testing.T) {
	huge := string(codec.NewWriter().Int(math.MaxInt64).Done())
	for _, c := range []struct {
		b    string
		most int
		e    api.Errno
	}{
		{"\x01", 9, api.ErrForm},
		{"\x01", -9, api.ErrForm},
		{high + "\x01", 9, api.ErrForm},
		{"\x00", -1, api.ErrLong},
		{"\x06abc", 2, api.ErrLong},
		{"\x06ab", 2, api.ErrLong},
		{"\x06ab", 3, api.ErrShort},
		{"\x02", 1, api.ErrShort},
		{huge, math.MaxInt64 - 1, api.ErrLong},
		{huge + "abc", math.MaxInt64, api.ErrShort},
	} {
		r := codec.NewReader([]byte("\x00" + c.b))
		r.Int("zero")
		if x := r.Bytes("b", c.most); len(x) != 0 {
			t.Errorf("Bytes(%d) of % x: %q", c.most, c.b, x)
		}
		wantFault(t, r.End(), c.e, 1, "b")
	}
}

func TestP102FaultStays(t *testing.T) {
	r := codec.NewReader([]byte("\x02\x0a\x02\x02z"))
	r.Int("one")
	r.Between("first", 0, 4)
	for range 2 {
		if r.Int("a") != 0 || r.Between("b", 1, 9) != 0 || len(r.Bytes("c", 9)) != 0 || r.Bytes("d", -1) != nil {
			t.Error("no zeros behind a Fault")
		}
		wantFault(t, r.End(), api.ErrForm, 1, "first")
	}
}

func TestP102End(t *testing.T) {
	r := codec.NewReader([]byte{2, 4, 6})
	wantFault(t, r.End(), api.ErrForm, 0, "end")
	r.Int("a")
	wantFault(t, r.End(), api.ErrForm, 1, "end")
	wantFault(t, r.End(), api.ErrForm, 1, "end")
	if r.Int("b") != 2 || r.Int("c") != 3 {
		t.Error("P5: what End answered kept the bytes behind it from being read")
	}
	if err := r.End(); err != nil {
		t.Error(err)
	}
	r.Int("d")
	wantFault(t, r.End(), api.ErrShort, 3, "d")
	if codec.NewReader(nil).End() != nil || new(codec.Reader).End() != nil {
		t.Error("a reader of nothing has no end")
	}
}

func TestP102EndAnswersItsOwn(t *testing.T) {
	for _, b := range []string{"", "\x02\x02"} {
		r := codec.NewReader([]byte(b))
		r.Int("a")
		var f *codec.Fault
		if !errors.As(r.End(), &f) {
			t.Fatalf("%v", r.End())
		}
		e, at, what := f.Err, f.At, f.What
		*f = codec.Fault{}
		wantFault(t, r.End(), e, at, what)
	}
}

func TestP102FaultTells(t *testing.T) {
	for _, c := range []struct {
		f    codec.Fault
		want string
	}{
		{codec.Fault{Err: api.ErrShort, At: 1, What: "b"}, "short in b at 1"},
		{codec.Fault{Err: api.ErrLost, At: -12, What: "two words"}, "lost in two words at -12"},
		{codec.Fault{}, "ok in  at 0"},
		{codec.Fault{Err: 99, At: math.MaxInt, What: "x"}, "error in x at 9223372036854775807"},
	} {
		if c.f.Error() != c.want {
			t.Errorf("%q; want %q", c.f.Error(), c.want)
		}
		if c.f.Unwrap() != error(c.f.Err) || !errors.Is(&c.f, c.f.Err) || errors.Is(&c.f, api.ErrDown) {
			t.Errorf("%v wraps %v", c.f.Error(), c.f.Unwrap())
		}
	}
}

func TestP102Memory(t *testing.T) {
	in, check := roomy(t, "\x08data\x04xy\x0e")
	r := codec.NewReader(in)
	first := r.Bytes("data", 4)
	check()
	scribble(in)
	if string(first) != "data" {
		t.Errorf("P2: an answer shares what was handed in: %q", first)
	}
	scribble(first)
	second := r.Bytes("xy", 2)
	if string(second) != "xy" || r.Int("seven") != 7 || r.End() != nil {
		t.Errorf("P2: %q, %v", second, r.End())
	}
}
