package codec_test

import (
	"bytes"
	"encoding/binary"
	"errors"
	"math"
	"math/rand"
	"reflect"
	"testing"

	"teasel/api"
	"teasel/codec"
)

// field is one that a call's bytes tell, and what a Fault names it.
type field struct {
	what string
	b    []byte
}

func number(what string, v int) field {
	return field{what, binary.AppendVarint(nil, int64(v))}
}

func run(what string, b []byte) field {
	return field{what, append(binary.AppendVarint(nil, int64(len(b))), b...)}
}

// fields are a call's, in the order that is promised.
func fields(c api.Call) []field {
	k := c.Token
	l := []field{
		number("kind", c.Kind), number("flow", c.Flow), number("list", c.List), number("n", c.N),
		number("token", k.Flow), number("token", k.Run), number("token", k.Event), number("token", k.Turn),
		run("data", c.Data), number("count", len(c.L)),
	}
	for _, d := range c.L {
		l = append(l, number("decision", d.Kind), number("decision", d.Id), number("decision", d.List),
			number("decision", d.N), run("decision", d.Data))
	}
	return l
}

func joined(l []field) []byte {
	var b []byte
	for _, f := range l {
		b = append(b, f.b...)
	}
	return b
}

func calls() map[string]api.Call {
	full := api.Call{Kind: api.CDecide, Data: drawn(api.MaxData)}
	for i := range api.MaxList {
		full.L = append(full.L, api.Decision{Kind: i, Data: drawn(api.MaxData - i)})
	}
	return map[string]api.Call{
		"zero":  {},
		"start": {Kind: api.CStart, Flow: 1, List: 2, N: 3, Data: []byte("in")},
		"apart": {Kind: 1, Flow: 2, List: 3, N: 4, Token: api.Token{Flow: 5, Run: 6, Event: 7, Turn: 8}, Data: []byte("nine"),
			L: []api.Decision{{Kind: 10, Id: 11, List: 12, N: 13, Data: []byte("fourteen")}, {Kind: 15, Id: 16, List: 17, N: 18}}},
		"wild": {Kind: math.MinInt, Flow: math.MaxInt, List: -1, N: 1 << 40, Token: api.Token{Flow: math.MaxInt, Run: math.MinInt, Event: -64, Turn: 64},
			L: []api.Decision{{Kind: math.MaxInt, Id: math.MinInt, List: -65, N: -1, Data: []byte{0, 255}}}},
		"full": full,
	}
}

// plain is a call in which no list and an empty one are the same.
func plain(c api.Call) api.Call {
	c.Data = append([]byte{}, c.Data...)
	l := make([]api.Decision, len(c.L))
	for i, d := range c.L {
		d.Data = append([]byte{}, d.Data...)
		l[i] = d
	}
	c.L = l
	return c
}

func same(a, b api.Call) bool { return reflect.DeepEqual(plain(a), plain(b)) }

func TestP104Call(t *testing.T) {
	c := api.Call{Kind: 1, Flow: -1, List: 2, N: 3, Token: api.Token{Flow: 4, Run: 5, Event: 6, Turn: 7}, Data: []byte("d"),
		L: []api.Decision{{Kind: 8, Id: 9, List: 10, N: 11, Data: []byte("xy")}, {}}}
	want := "\x02\x01\x04\x06" + "\x08\x0a\x0c\x0e" + "\x02d" + "\x04" + "\x10\x12\x14\x16\x04xy" + "\x00\x00\x00\x00\x00"
	if b := codec.Call(c); string(b) != want {
		t.Errorf("% x; want % x", b, want)
	}
	for name, c := range calls() {
		if b := codec.Call(c); !bytes.Equal(b, joined(fields(c))) {
			t.Errorf("%s: % x; want % x", name, b, joined(fields(c)))
		}
	}
}

func TestP104ReadCall(t *testing.T) {
	for name, c := range calls() {
		x, err := codec.ReadCall(codec.Call(c))
		if err != nil || !same(x, c) {
			t.Errorf("%s: %v, %v; want %v", name, x, err, c)
		}
	}
}

func wantCallFault(t *testing.T, b []byte, e api.Errno, at int, what string) {
	t.Helper()
	c, err := codec.ReadCall(b)
	if !reflect.DeepEqual(c, api.Call{}) {
		t.Errorf("P4: %v beside %v", c, err)
	}
	wantFault(t, err, e, at, what)
}

func TestP104CallEnds(t *testing.T) {
	for _, name := range []string{"zero", "apart", "wild"} {
		l := fields(calls()[name])
		whole := joined(l)
		at := 0
		for _, f := range l {
			for i := range f.b {
				wantCallFault(t, whole[:at+i], api.ErrShort, at, f.what)
			}
			at += len(f.b)
		}
		wantCallFault(t, append(whole, 0), api.ErrForm, at, "end")
	}
}

// with is a call's bytes with other ones in place of its field k, and where these begin.
func with(c api.Call, k int, b []byte) ([]byte, int) {
	l := fields(c)
	at := len(joined(l[:k]))
	l[k].b = b
	return joined(l), at
}

func TestP104CallFaults(t *testing.T) {
	c := calls()["apart"]
	for k, f := range fields(c) {
		for _, bad := range []string{"\x80\x00", high + "\x02", high + "\xff"} {
			b, at := with(c, k, []byte(bad))
			wantCallFault(t, b, api.ErrForm, at, f.what)
		}
	}
	below := binary.AppendVarint(nil, -1)
	long := run("", drawn(api.MaxData+1)).b
	for _, k := range []int{8, 14} {
		b, at := with(c, k, below)
		wantCallFault(t, b, api.ErrForm, at, fields(c)[k].what)
		b, at = with(c, k, long)
		wantCallFault(t, b, api.ErrLong, at, fields(c)[k].what)
	}
	for _, n := range []int{-1, api.MaxList + 1, math.MaxInt, math.MinInt} {
		b, at := with(c, 9, number("", n).b)
		wantCallFault(t, b, api.ErrForm, at, "count")
	}
	b, at := with(c, 9, number("", 1).b)
	wantCallFault(t, b, api.ErrForm, at+1+len(joined(fields(c)[10:15])), "end")
}

// TestP104TooGreat lays calls that Call tells, but that ReadCall refuses.
func TestP104TooGreat(t *testing.T) {
	for _, c := range []struct {
		c    api.Call
		e    api.Errno
		at   int
		what string
	}{
		{api.Call{Data: make([]byte, api.MaxData+1)}, api.ErrLong, 8, "data"},
		{api.Call{L: make([]api.Decision, api.MaxList+1)}, api.ErrForm, 9, "count"},
		{api.Call{L: []api.Decision{{Data: make([]byte, api.MaxData+1)}}}, api.ErrLong, 14, "decision"},
	} {
		b := codec.Call(c.c)
		if !bytes.Equal(b, joined(fields(c.c))) {
			t.Errorf("%s: Call tells otherwise", c.what)
		}
		wantCallFault(t, b, c.e, c.at, c.what)
	}
}

// TestP104AnyBytes changes calls here and there: what is still one must be told by these bytes alone.
func TestP104AnyBytes(t *testing.T) {
	r := rand.New(rand.NewSource(4))
	start := codec.Call(calls()["apart"])
	read := 0
	for range 20000 {
		b := bytes.Clone(start)
		for range 1 + r.Intn(3) {
			b[r.Intn(len(b))] = byte(r.Intn(256))
		}
		b = b[:len(b)-r.Intn(2)*r.Intn(len(b))]
		c, err := codec.ReadCall(b)
		var f *codec.Fault
		switch {
		case err == nil:
			read++
			if !bytes.Equal(codec.Call(c), b) {
				t.Fatalf("% x is read as %v, whose bytes are others", b, c)
			}
		case !errors.As(err, &f) || f.At < 0 || f.At > len(b):
			t.Fatalf("% x: %v", b, err)
		}
	}
	if read == 0 {
		t.Error("none of them was a call")
	}
}

func TestP104Memory(t *testing.T) {
	c := calls()["apart"]
	data, checkData := roomy(t, "nine")
	c.Data = data
	in, check := roomy(t, string(codec.Call(c)))
	checkData()
	x, err := codec.ReadCall(in)
	check()
	scribble(in)
	if err != nil || !same(x, c) {
		t.Errorf("P2: an answer shares what was handed in: %v, %v", x, err)
	}
	scribble(x.Data)
	if !same(api.Call{L: x.L}, api.Call{L: c.L}) {
		t.Errorf("P2: two lists of an answer share memory: %v", x)
	}
	scribble(x.L[0].Data)
	if len(x.L[1].Data) != 0 || string(c.L[0].Data) != "fourteen" {
		t.Errorf("P2: %v, %v", x, c)
	}
	one, two := codec.Call(c), codec.Call(c)
	scribble(one)
	if !bytes.Equal(two, joined(fields(c))) {
		t.Errorf("P2, P3: % x", two)
	}
}
