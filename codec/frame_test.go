package codec_test

import (
	"bytes"
	"encoding/binary"
	"hash/crc32"
	"math/rand"
	"testing"

	"teasel/api"
	"teasel/codec"
)

const mostFramed = 1 << 20

// sum is the library's CRC-32C.
func sum(b []byte) uint32 { return crc32.Checksum(b, crc32.MakeTable(crc32.Castagnoli)) }

// head is a frame's first eight bytes.
func head(n uint32) []byte {
	b := binary.LittleEndian.AppendUint32(nil, n)
	return binary.LittleEndian.AppendUint32(b, sum(b))
}

func framed(b []byte) []byte {
	f := append(head(uint32(len(b))), b...)
	return binary.LittleEndian.AppendUint32(f, sum(b))
}

func drawn(n int) []byte {
	b := make([]byte, n)
	rand.New(rand.NewSource(int64(n))).Read(b)
	return b
}

func TestP103Sum(t *testing.T) {
	for s, want := range map[string]uint32{
		"":                                    0,
		"a":                                   0xC1D04330,
		"123456789":                           0xE3069283,
		string(make([]byte, 32)):              0x8A9136AA,
		string(bytes.Repeat([]byte{255}, 32)): 0x62A8AB43,
	} {
		if x := codec.Sum([]byte(s)); x != want {
			t.Errorf("Sum(%q): %x; want %x", s, x, want)
		}
	}
	for c := range 256 {
		if b := []byte{byte(c)}; codec.Sum(b) != sum(b) {
			t.Errorf("Sum(% x): %x; want %x", b, codec.Sum(b), sum(b))
		}
	}
	for n := range 300 {
		if b := drawn(n); codec.Sum(b) != sum(b) {
			t.Errorf("Sum of %d bytes: %x; want %x", n, codec.Sum(b), sum(b))
		}
	}
}

func TestP103Frame(t *testing.T) {
	if b := codec.Frame([]byte("123456789")); string(b) != "\x09\x00\x00\x00"+"\x99\x82\x66\x63"+"123456789"+"\x83\x92\x06\xe3" {
		t.Errorf("% x", b)
	}
	for _, n := range []int{0, 1, 255, 256, 70000, mostFramed, mostFramed + 1} {
		b := drawn(n)
		if f := codec.Frame(b); !bytes.Equal(f, framed(b)) {
			t.Errorf("Frame of %d bytes differs", n)
		}
	}
	if !bytes.Equal(codec.Frame(nil), codec.Frame([]byte{})) {
		t.Error("no list and an empty one are framed otherwise")
	}
}

func TestP103ReadFrame(t *testing.T) {
	for _, n := range []int{0, 1, 255, 256, 70000, mostFramed} {
		b := drawn(n)
		f := codec.Frame(b)
		for _, more := range []string{"", "\x00", "more behind it"} {
			x, took, err := codec.ReadFrame(append(bytes.Clone(f), more...))
			if !bytes.Equal(x, b) || took != len(f) || err != nil {
				t.Errorf("%d bytes: %d, took %d of %d, %v", n, len(x), took, len(f), err)
			}
		}
	}
}

func TestP103FramesInARow(t *testing.T) {
	var b []byte
	words := []string{"one", "", "three"}
	for _, s := range words {
		b = append(b, codec.Frame([]byte(s))...)
	}
	for _, s := range words {
		x, n, err := codec.ReadFrame(b)
		if string(x) != s || err != nil {
			t.Fatalf("%q, %v; want %q", x, err, s)
		}
		b = b[n:]
	}
	if len(b) != 0 {
		t.Errorf("% x are left", b)
	}
}

func wantFrameFault(t *testing.T, b []byte, e api.Errno, at int, what string) {
	t.Helper()
	x, n, err := codec.ReadFrame(b)
	if len(x) != 0 || n != 0 {
		t.Errorf("P4: %q, %d beside %v", x, n, err)
	}
	wantFault(t, err, e, at, what)
}

func TestP103FrameEnds(t *testing.T) {
	for _, s := range []string{"", "x", "some more"} {
		f := codec.Frame([]byte(s))
		for i := range f {
			if i < 8 {
				wantFrameFault(t, f[:i], api.ErrShort, 0, "head")
			} else {
				wantFrameFault(t, f[:i], api.ErrShort, 8, "body")
			}
		}
	}
}

func TestP103FrameChanged(t *testing.T) {
	f := codec.Frame([]byte("payload"))
	for i := range f {
		for bit := range 8 {
			x := bytes.Clone(f)
			x[i] ^= 1 << bit
			if i < 8 {
				wantFrameFault(t, x, api.ErrSum, 0, "head")
			} else {
				wantFrameFault(t, x, api.ErrSum, 8, "body")
			}
		}
	}
}

func TestP103FrameFaultsInOrder(t *testing.T) {
	wrong := func(b []byte, at int) []byte {
		b[at] ^= 1
		return b
	}
	wantFrameFault(t, nil, api.ErrShort, 0, "head")
	wantFrameFault(t, wrong(head(mostFramed+1), 7), api.ErrSum, 0, "head")
	wantFrameFault(t, head(mostFramed+1), api.ErrLong, 0, "length")
	wantFrameFault(t, head(1<<32-1), api.ErrLong, 0, "length")
	wantFrameFault(t, head(1<<31), api.ErrLong, 0, "length")
	wantFrameFault(t, head(mostFramed), api.ErrShort, 8, "body")
	wantFrameFault(t, codec.Frame(drawn(mostFramed+1)), api.ErrLong, 0, "length")
	f := wrong(codec.Frame([]byte("ab")), 8)
	wantFrameFault(t, f[:len(f)-1], api.ErrShort, 8, "body")
	wantFrameFault(t, f, api.ErrSum, 8, "body")
	wantFrameFault(t, wrong(codec.Frame(nil), 11), api.ErrSum, 8, "body")
	wantFrameFault(t, make([]byte, 8), api.ErrSum, 0, "head")
}

func TestP103Memory(t *testing.T) {
	in, check := roomy(t, "abc")
	f := codec.Frame(in)
	codec.Sum(in)
	check()
	scribble(in)
	if !bytes.Equal(f, framed([]byte("abc"))) {
		t.Errorf("P2: a frame shares what was handed in: % x", f)
	}
	in, check = roomy(t, string(f))
	x, _, err := codec.ReadFrame(in)
	check()
	scribble(in)
	if string(x) != "abc" || err != nil {
		t.Errorf("P2: %q, %v", x, err)
	}
	in, check = roomy(t, string(f))
	x, _, _ = codec.ReadFrame(in)
	scribble(x)
	check()
}
