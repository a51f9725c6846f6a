package codec_test

import (
	"bytes"
	"encoding/binary"
	"math"
	"math/rand"
	"strings"
	"testing"

	"teasel/codec"
)

func TestP101IntBytes(t *testing.T) {
	for _, c := range []struct {
		v    int64
		want string
	}{
		{0, "\x00"},
		{-1, "\x01"},
		{1, "\x02"},
		{-2, "\x03"},
		{63, "\x7e"},
		{-64, "\x7f"},
		{64, "\x80\x01"},
		{-65, "\x81\x01"},
		{300, "\xd8\x04"},
		{8191, "\xfe\x7f"},
		{-8192, "\xff\x7f"},
		{8192, "\x80\x80\x01"},
		{math.MaxInt64, "\xfe\xff\xff\xff\xff\xff\xff\xff\xff\x01"},
		{math.MinInt64, "\xff\xff\xff\xff\xff\xff\xff\xff\xff\x01"},
	} {
		if b := codec.NewWriter().Int(c.v).Done(); string(b) != c.want {
			t.Errorf("Int(%d): % x; want % x", c.v, b, c.want)
		}
	}
}

// numbers are some of each length in bits, of both signs.
func numbers() []int64 {
	l := []int64{0, math.MinInt64}
	r := rand.New(rand.NewSource(1))
	for bits := range 63 {
		low := int64(1) << bits
		for _, v := range []int64{low, low - 1 + low, low + r.Int63n(low)} {
			l = append(l, v, -v, -v-1)
		}
	}
	return l
}

func TestP101IntAgainstLibrary(t *testing.T) {
	for _, v := range numbers() {
		if b, want := codec.NewWriter().Int(v).Done(), binary.AppendVarint(nil, v); !bytes.Equal(b, want) {
			t.Errorf("Int(%d): % x; want % x", v, b, want)
		}
	}
}

func TestP101Bytes(t *testing.T) {
	long := strings.Repeat("z", 64)
	for _, c := range []struct{ b, want string }{
		{"", "\x00"},
		{"a", "\x02a"},
		{"\x00\xff", "\x04\x00\xff"},
		{long[:63], "\x7e" + long[:63]},
		{long, "\x80\x01" + long},
	} {
		if b := codec.NewWriter().Bytes([]byte(c.b)).Done(); string(b) != c.want {
			t.Errorf("Bytes(%q): %q; want %q", c.b, b, c.want)
		}
	}
	if b := codec.NewWriter().Bytes(nil).Done(); string(b) != "\x00" {
		t.Errorf("Bytes(nil): %q", b)
	}
}

func TestP101OneBehindTheOther(t *testing.T) {
	w := codec.NewWriter()
	if b := w.Done(); len(b) != 0 {
		t.Errorf("a new writer has % x", b)
	}
	if w.Int(1) != w || w.Bytes(nil) != w {
		t.Error("a writer's calls answer another writer")
	}
	w.Int(-64).Bytes([]byte("xyz")).Int(64)
	if b := w.Done(); string(b) != "\x02\x00\x7f\x06xyz\x80\x01" {
		t.Errorf("% x", b)
	}
	var zero codec.Writer
	if b := zero.Int(5).Done(); string(b) != "\x0a" {
		t.Errorf("a zero Writer: % x", b)
	}
}

func TestP101WritersAreApart(t *testing.T) {
	a, b := codec.NewWriter(), codec.NewWriter()
	a.Int(1)
	b.Int(2)
	if string(a.Done()) != "\x02" || string(b.Done()) != "\x04" {
		t.Errorf("% x, % x", a.Done(), b.Done())
	}
}

func TestP101Memory(t *testing.T) {
	w := codec.NewWriter()
	in, check := roomy(t, "data")
	w.Bytes(in)
	check()
	scribble(in)
	first := w.Done()
	if string(first) != "\x08data" {
		t.Errorf("P2: what was handed in is kept: %q", first)
	}
	scribble(first)
	if b := w.Int(7).Done(); string(b) != "\x08data\x0e" {
		t.Errorf("P2: an answer is the writer's own memory: %q", b)
	}
	second := w.Done()
	w.Int(8)
	scribble(w.Done())
	if string(second) != "\x08data\x0e" {
		t.Errorf("P2: a later call changed an answer: %q", second)
	}
}
