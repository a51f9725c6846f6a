package dedup_test

import (
	"bytes"
	"math"
	"testing"

	"teasel/api"
	"teasel/codec"
	"teasel/dedup"
	"teasel/draws"
)

func TestP1102Encode(t *testing.T) {
	x := newTable(t, 3)
	wantEncode(t, x, []byte{6, 0})
	wantPut(t, x, 7, 2, "ab", dedup.New)
	wantEncode(t, x, []byte{6, 2, 14, 4, 2, 4, 4, 'a', 'b'})
	wantPut(t, x, 7, 1, "", dedup.New)
	wantEncode(t, x, []byte{6, 2, 14, 4, 4, 2, 0, 4, 4, 'a', 'b'})
	wantPut(t, x, 0, 64, "c", dedup.New)
	wantEncode(t, x, []byte{6, 4, 0, 0x80, 1, 2, 0x80, 1, 2, 'c', 14, 4, 4, 2, 0, 4, 4, 'a', 'b'})
	wantPut(t, x, 7, 9, "d", dedup.New)
	wantEncode(t, x, []byte{6, 4, 0, 0x80, 1, 2, 0x80, 1, 2, 'c', 14, 18, 2, 18, 2, 'd'})
	wantEncode(t, newTable(t, 4, mixed()...), laid(4, some()...))
}

func TestP1102ThereAndBack(t *testing.T) {
	for _, window := range []int{4, 5, mostWindow} {
		x := newTable(t, window, mixed()...)
		y := mustDecode(t, x.Encode())
		wantRows(t, y, some()...)
		wantEncode(t, y, x.Encode())
		for client := range 12 {
			wantTop(t, y, client, x.Top(client))
		}
	}
	for _, window := range []int{1, 2, mostWindow} {
		wantRows(t, mustDecode(t, laid(window)))
		wantEncode(t, mustDecode(t, laid(window)), laid(window))
	}
}

// TestP1102GoesOn: one that was decoded goes on as the one that was encoded.
func TestP1102GoesOn(t *testing.T) {
	x := newTable(t, 4, mixed()...)
	y := mustDecode(t, x.Encode())
	for _, z := range []*dedup.Table{x, y} {
		wantPut(t, z, 10, 3, "late", dedup.New)
		wantPut(t, z, 10, 4, "again", dedup.Old)
		wantPut(t, z, 10, 6, "next", dedup.New)
		wantPut(t, z, 10, 2, "gone", dedup.Expired)
		wantPut(t, z, 1, 1, "other", dedup.New)
		wantPut(t, z, 0, 8, "far", dedup.New)
		wantRows(t, z, row{0, 8, "far"}, row{1, 1, "other"}, row{2, 9, "bc"}, row{10, 3, "late"},
			row{10, 4, "f"}, row{10, 6, "next"}, row{api.MaxFlow, mostSeq, "g"})
	}
	wantEncode(t, y, x.Encode())
}

// fullRow are as many requests of a client as a window has, up to a number.
func fullRow(client, window, top int) []row {
	var l []row
	for seq := top - window + 1; seq <= top; seq++ {
		l = append(l, row{client, seq, "x"})
	}
	return l
}

func TestP1102Bounds(t *testing.T) {
	for _, l := range [][]row{
		fullRow(0, mostWindow, mostWindow),
		fullRow(0, mostWindow, mostWindow+1),
		fullRow(api.MaxFlow, mostWindow, mostSeq),
		append(fullRow(1, 3, mostWindow), fullRow(2, 1, mostSeq)...),
		{{0, 1, "a"}, {0, mostWindow, "b"}},
		{{0, 2, "a"}, {0, mostWindow + 1, "b"}},
	} {
		x := mustDecode(t, laid(mostWindow, l...))
		wantRows(t, x, l...)
		wantEncode(t, x, laid(mostWindow, l...))
	}
}

// TestP1102AllClients has a request of each client that may be, and one more in the bytes.
func TestP1102AllClients(t *testing.T) {
	w := codec.NewWriter().Int(1).Int(api.MaxFlow + 1)
	x := newTable(t, 1)
	for client := range api.MaxFlow + 1 {
		w.Int(int64(client)).Int(1).Int(1).Int(1).Int(0)
		x.Put(client, 1, nil)
	}
	b := w.Done()
	if !bytes.Equal(x.Encode(), b) {
		t.Fatal("Encode tells otherwise")
	}
	y := mustDecode(t, b)
	if !bytes.Equal(y.Encode(), b) || y.Len() != api.MaxFlow+1 || len(y.Clients()) != y.Len() {
		t.Errorf("Decode: %d answers", y.Len())
	}
	more := append(ints(1, api.MaxFlow+2), b[len(ints(1, api.MaxFlow+1)):]...)
	wantFault(t, append(more, ints(api.MaxFlow+1, 1, 1, 1, 0)...), api.ErrForm, 1, "table")
}

func TestP1102LongAnswer(t *testing.T) {
	x := newTable(t, 1)
	long := bytes.Repeat([]byte{7}, mostAnswer+1)
	x.Put(1, 1, long[:mostAnswer])
	b := x.Encode()
	y := mustDecode(t, b)
	if kind, answer := y.Look(1, 1); kind != dedup.Old || !bytes.Equal(answer, long[:mostAnswer]) || !bytes.Equal(y.Encode(), b) {
		t.Errorf("%d, %d bytes", kind, len(answer))
	}
	x.Put(1, 2, long)
	if kind, answer := x.Look(1, 2); kind != dedup.Old || !bytes.Equal(answer, long) {
		t.Errorf("%d, %d bytes", kind, len(answer))
	}
	wantFault(t, x.Encode(), api.ErrLong, 6, "table")
	wantFault(t, ints(1, 1, 1, 1, 1, 1, mostAnswer+1), api.ErrLong, 6, "table")
	wantFault(t, ints(1, 1, 1, 1, 1, 1, math.MaxInt), api.ErrLong, 6, "table")
	wantFault(t, ints(1, 1, 1, 1, 1, 1, mostAnswer), api.ErrShort, 6, "table")
	wantFault(t, ints(1, 1, 1, 1, 1, 1, -1), api.ErrForm, 6, "table")
}

// TestP1102Ends: within each number, and behind the last one.
func TestP1102Ends(t *testing.T) {
	b := laid(4, some()...)
	for n := range b {
		if f := faultOf(t, b[:n]); f.Err != api.ErrShort || f.What != "table" {
			t.Errorf("%d bytes: %v", n, f)
		}
	}
	wantFault(t, nil, api.ErrShort, 0, "table")
	wantFault(t, append(bytes.Clone(b), 0), api.ErrForm, len(b), "end")
	wantFault(t, append(bytes.Clone(b), b...), api.ErrForm, len(b), "end")
	wantFault(t, []byte{6, 0, 0}, api.ErrForm, 2, "end")
	short := ints(3, 1, 1, 2, 1, 2)
	for n := range short {
		wantFault(t, short[:n], api.ErrShort, n, "table")
	}
}

// TestP1102Many: bytes that claim to have many more than they have.
func TestP1102Many(t *testing.T) {
	for _, b := range [][]byte{
		ints(mostWindow, api.MaxFlow+1),
		ints(mostWindow, api.MaxFlow+1, 0, mostSeq, mostWindow),
		ints(mostWindow, api.MaxFlow+1, 0, 1, 1, 1, 0),
	} {
		wantFault(t, b, api.ErrShort, len(b), "table")
	}
}

// TestP1102Numbers: each that may not be, whatever the others are.
func TestP1102Numbers(t *testing.T) {
	for _, v := range append(notSeqs(), mostWindow+1) {
		wantFault(t, ints(v, 0), api.ErrForm, 0, "table")
	}
	for _, v := range append(farOff, api.MaxFlow+2) {
		wantFault(t, ints(3, v), api.ErrForm, 1, "table")
	}
	for _, v := range notClients() {
		wantFault(t, ints(3, 1, v, 1, 1, 1, 0), api.ErrForm, 2, "table")
		wantFault(t, ints(3, 2, 0, 1, 1, 1, 0, v, 1, 1, 1, 0), api.ErrForm, 7, "table")
	}
	for _, v := range notSeqs() {
		wantForm(t, ints(3, 1, 0, v, 1, v, 0))
		wantForm(t, ints(3, 1, 0, 1, 1, v, 0))
		wantForm(t, ints(3, 1, 0, v, 1, 1, 0))
		wantForm(t, ints(3, 1, 0, 3, 2, v, 0, 3, 0))
	}
	for _, v := range append(notSeqs(), 4) {
		wantForm(t, ints(3, 1, 0, 9, v, 6, 0, 7, 0, 8, 0, 9, 0))
	}
	wantForm(t, ints(3, 1, 0, 9, 0))
	wantForm(t, ints(3, 1, 0, 0, 0))
	wantForm(t, []byte{0x86, 0, 0})
	wantForm(t, []byte{6, 0x80, 0})
}

func TestP1102Order(t *testing.T) {
	for _, l := range [][]int{
		{3, 2, 1, 2, 1, 2, 0, 1, 2, 1, 2, 0},             // a client twice
		{3, 2, 1, 2, 1, 2, 0, 0, 2, 1, 2, 0},             // clients fall
		{3, 3, 1, 2, 1, 2, 0, 5, 2, 1, 2, 0, 4, 1, 1, 1}, // further on
		{3, 1, 0, 2, 2, 2, 0, 2, 0},                      // a request twice
		{3, 1, 0, 2, 2, 2, 0, 1, 0},                      // requests fall
		{3, 1, 0, 3, 3, 1, 0, 3, 0, 3, 0},
		{3, 1, 0, 3, 3, 2, 0, 1, 0, 3, 0},
		{3, 1, 0, 3, 3, 1, 0, 1, 0, 3, 0},
		{3, 1, 0, 1, 2, 1, 0, 1, 0}, // more than may be up to Top
		{3, 1, 0, 2, 1, 1, 0},       // Top has no answer
		{3, 1, 0, 4, 2, 2, 0, 3, 0},
		{3, 1, 0, 1, 1, 2, 0}, // one above Top
		{3, 1, 0, 3, 2, 2, 0, 4, 0},
		{3, 1, 0, 4, 2, 1, 0, 4, 0}, // one is Expired
		{3, 1, 0, 9, 4, 6, 0, 7, 0, 8, 0, 9, 0},
		{1, 1, 0, 2, 2, 1, 0, 2, 0},
		{mostWindow, 1, 0, mostWindow + 1, 2, 1, 0, mostWindow + 1, 0},
	} {
		wantForm(t, ints(l...))
	}
}

// TestP1102Any (P1): of any bytes Decode ends; what it reads is laid as those bytes.
func TestP1102Any(t *testing.T) {
	s := draws.New(1102)
	start := laid(4, row{0, 3, "a"}, row{0, 4, ""}, row{2, 9, "bc"}, row{3, 1, "d"}, row{3, 2, "e"})
	read := 0
	for range 200000 {
		b := bytes.Clone(start)
		for range s.Between(1, 3) {
			b[s.Below(len(b))] = byte(s.Below(24))
			if s.Below(20) == 0 {
				b[s.Below(len(b))] = byte(s.Next())
			}
		}
		b = b[:len(b)-s.Below(8)/7]
		x, err := dedup.Decode(b)
		if err != nil {
			faultOf(t, b)
			continue
		}
		read++
		if !bytes.Equal(x.Encode(), b) {
			t.Fatalf("% x is read, but laid as % x", b, x.Encode())
		}
		wantMade(t, x)
	}
	if read < 1000 {
		t.Errorf("%d were read", read)
	}
}

// wantMade asks that what was read may be made by Put, too.
func wantMade(t *testing.T, x *dedup.Table) {
	t.Helper()
	b := x.Encode()
	y := newTable(t, int(codec.NewReader(b).Int("window")), rowsOf(x)...)
	wantEncode(t, y, b)
	wantRows(t, x, rowsOf(y)...)
}
