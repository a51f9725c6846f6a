package chunk_test

import (
	"bytes"
	"errors"
	"math"
	"testing"

	"teasel/api"
	"teasel/chunk"
	"teasel/codec"
)

// record are a piece's bytes within the frame.
func record(id, at, total, sum int64, data []byte) []byte {
	return codec.NewWriter().Int(id).Int(at).Int(total).Int(sum).Bytes(data).Done()
}

func pieces() []chunk.Piece {
	return []chunk.Piece{
		{},
		{Id: 1, At: 2, Total: 3, Sum: 4, Data: []byte{5}},
		{Id: 1 << 62, At: 1 << 62, Total: 1 << 62, Sum: math.MaxUint32, Data: drawn(1 << 16)},
		{Id: 63, At: 64, Total: 1 << 20, Sum: 1 << 31, Data: drawn(1<<16 - 1)},
		{At: 7},
		{Total: 300, Data: []byte("more\x00")},
	}
}

func TestP1003Encode(t *testing.T) {
	odd := []chunk.Piece{{Id: -1, At: math.MinInt, Total: math.MaxInt}, {Data: drawn(1<<20 + 1)}}
	for i, p := range append(pieces(), odd...) {
		want := codec.Frame(record(int64(p.Id), int64(p.At), int64(p.Total), int64(p.Sum), p.Data))
		if b := chunk.Encode(p); !bytes.Equal(b, want) {
			t.Errorf("%d: %d bytes; want %d", i, len(b), len(want))
		}
	}
	want := []byte{2, 4, 6, 8, 2, 5}
	if b := chunk.Encode(pieces()[1]); !bytes.Equal(b[8:14], want) || len(b) != 18 {
		t.Errorf("% x; want % x in a frame", b, want)
	}
}

func TestP1003ThereAndBack(t *testing.T) {
	for i, p := range pieces() {
		x, err := chunk.Decode(chunk.Encode(p))
		if err != nil || !isSame(x, p) {
			t.Errorf("%d: %v", i, err)
		}
	}
	for _, p := range mustCut(t, 9, drawn(1<<20), 1<<16) {
		x, err := chunk.Decode(chunk.Encode(p))
		if err != nil || !isSame(x, p) {
			t.Errorf("%d: %v", p.At, err)
		}
	}
}

func decodeNone(t *testing.T, b []byte) error {
	t.Helper()
	p, err := chunk.Decode(b)
	if !isSame(p, chunk.Piece{}) {
		t.Errorf("a piece beside %v", err)
	}
	return err
}

// wantNoPiece is of a record that is framed as it ought to be.
func wantNoPiece(t *testing.T, record []byte, e api.Errno, at int, what string) {
	t.Helper()
	wantFault(t, decodeNone(t, codec.Frame(record)), e, at, what)
}

func TestP1003NoFrame(t *testing.T) {
	b := chunk.Encode(pieces()[1])
	for n := range b {
		what, at := "body", 8
		if n < 8 {
			what, at = "head", 0
		}
		wantFault(t, decodeNone(t, b[:n]), api.ErrShort, at, what)
	}
	wantFault(t, decodeNone(t, nil), api.ErrShort, 0, "head")
	for i := range b {
		x := bytes.Clone(b)
		x[i] ^= 0x10
		what, at := "body", 8
		if i < 8 {
			what, at = "head", 0
		}
		wantFault(t, decodeNone(t, x), api.ErrSum, at, what)
		wantFault(t, decodeNone(t, append(x, 0)), api.ErrSum, at, what)
	}
	wantFault(t, decodeNone(t, codec.Frame(make([]byte, 1<<20+1))), api.ErrLong, 0, "length")
}

func TestP1003Numbers(t *testing.T) {
	for _, v := range []int64{-1, -2, math.MinInt64, 1<<62 + 1, math.MaxInt64} {
		wantNoPiece(t, record(v, 0, 0, 0, nil), api.ErrForm, 0, "piece")
		wantNoPiece(t, record(1, v, 0, 0, nil), api.ErrForm, 1, "piece")
		wantNoPiece(t, record(1, 1, v, 0, nil), api.ErrForm, 2, "piece")
		wantNoPiece(t, record(1, 1, 1, v, nil), api.ErrForm, 3, "piece")
		wantNoPiece(t, record(v, v, v, v, nil), api.ErrForm, 0, "piece")
	}
	for _, v := range []int64{1 << 32, 1<<32 + 1, 1 << 62} {
		wantNoPiece(t, record(1, 1, 1, v, nil), api.ErrForm, 3, "piece")
	}
}

func TestP1003Data(t *testing.T) {
	wantNoPiece(t, record(1, 1, 1, 1, make([]byte, 1<<16+1)), api.ErrLong, 4, "data")
	head := codec.NewWriter().Int(1).Int(1).Int(1).Int(1)
	b := head.Done()
	for n := range b {
		wantNoPiece(t, b[:n], api.ErrShort, n, "piece")
	}
	wantNoPiece(t, b, api.ErrShort, 4, "data")
	wantNoPiece(t, append(b, 4, 0), api.ErrShort, 4, "data") // 2 of which 1 is there
	wantNoPiece(t, append(b, 1), api.ErrForm, 4, "data")     // -1
}

// TestP1003Left: bytes that are left within the frame are codec's to tell, those behind it are not.
func TestP1003Left(t *testing.T) {
	whole := record(1, 1, 1, 1, []byte("ab"))
	wantNoPiece(t, append(bytes.Clone(whole), 0), api.ErrForm, len(whole), "end")
	b := codec.Frame(whole)
	for _, rest := range [][]byte{{0}, {1, 2, 3}, b} {
		err := decodeNone(t, append(bytes.Clone(b), rest...))
		wantBroken(t, err, 0, api.ErrForm)
		if err.Error() != "chunk 0: form" {
			t.Errorf("%v", err)
		}
	}
	both := append(codec.Frame(record(1, -1, 1, 1, nil)), 0)
	wantFault(t, decodeNone(t, both), api.ErrForm, 1, "piece")
}

// TestP1003Any (P1): of any bytes Decode ends; what it reads is laid as those bytes.
func TestP1003Any(t *testing.T) {
	d := &dice{5}
	b := record(3, 70, 1<<20, 1<<31, []byte("abc"))
	read := 0
	for range 100000 {
		x := bytes.Clone(b)
		for range 1 + d.below(3) {
			x[d.below(len(x))] = byte(d.below(256))
		}
		x = codec.Frame(x[:len(x)-d.below(8)/7])
		p, err := chunk.Decode(x)
		var broken *chunk.Broken
		var f *codec.Fault
		var e api.Errno
		switch {
		case err == nil && bytes.Equal(chunk.Encode(p), x):
			read++
		case err == nil || !errors.As(err, &broken) || !errors.As(err, &f) || !errors.As(err, &e) || e == api.OK || !isSame(p, chunk.Piece{}):
			t.Fatalf("% x: %v, %v", x, p, err)
		}
	}
	if read < 1000 {
		t.Errorf("%d were read", read)
	}
}

func TestP1003Error(t *testing.T) {
	for _, c := range []struct {
		b    chunk.Broken
		want string
	}{
		{chunk.Broken{Id: 4, Err: api.ErrArg}, "chunk 4: arg"},
		{chunk.Broken{Id: -1, Err: api.ErrNot}, "chunk -1: not"},
		{chunk.Broken{Id: math.MaxInt, Err: api.ErrSum}, "chunk 9223372036854775807: sum"},
		{chunk.Broken{Err: &codec.Fault{Err: api.ErrShort, At: 8, What: "body"}}, "chunk 0: short in body at 8"},
		{chunk.Broken{Id: 2, Err: errors.New("of another kind")}, "chunk 2: of another kind"},
		{chunk.Broken{Id: 2}, "chunk 2: ok"},
	} {
		if text := c.b.Error(); text != c.want || c.b.Unwrap() != c.b.Err {
			t.Errorf("%q, %v; want %q", text, c.b.Unwrap(), c.want)
		}
	}
}
