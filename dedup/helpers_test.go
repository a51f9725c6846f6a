package dedup_test

import (
	"bytes"
	"errors"
	"math"
	"slices"
	"testing"

	"teasel/api"
	"teasel/codec"
	"teasel/dedup"
)

const (
	mostWindow = 1 << 12
	mostSeq    = 1 << 40
	mostAnswer = 1 << 25
)

// farOff are numbers beyond all bounds; some of them would be within, if their upper bits were lost.
var farOff = []int{math.MinInt, math.MinInt + 1, -1 << 32, -2, -1, mostSeq + 1, mostSeq + 2, 1<<41 + 1, 1<<62 + 1, math.MaxInt - 1, math.MaxInt}

// notClients are numbers that no client has.
func notClients() []int {
	return append(slices.Clone(farOff), api.MaxFlow+1, api.MaxFlow+2, 1<<32, 1<<32+1, mostSeq)
}

// notSeqs are numbers that no request has.
func notSeqs() []int { return append(slices.Clone(farOff), 0) }

// row is one thing that Each tells, or that Encode lays.
type row struct {
	client, seq int
	answer      string
}

func newTable(t *testing.T, window int, l ...row) *dedup.Table {
	t.Helper()
	x, e := dedup.NewTable(window)
	if x == nil || e != api.OK {
		t.Fatalf("NewTable(%d): %v", window, e)
	}
	for _, r := range l {
		wantPut(t, x, r.client, r.seq, r.answer, dedup.New)
	}
	return x
}

func wantPut(t *testing.T, x *dedup.Table, client, seq int, answer string, want int) {
	t.Helper()
	if kind := x.Put(client, seq, []byte(answer)); kind != want {
		t.Errorf("Put(%d, %d): %d; want %d", client, seq, kind, want)
	}
}

func wantLook(t *testing.T, x *dedup.Table, client, seq int, want int, answer string) {
	t.Helper()
	if kind, b := x.Look(client, seq); kind != want || string(b) != answer {
		t.Errorf("Look(%d, %d): %d, %q; want %d, %q", client, seq, kind, b, want, answer)
	}
}

func wantTop(t *testing.T, x *dedup.Table, client, want int) {
	t.Helper()
	if top := x.Top(client); top != want {
		t.Errorf("Top(%d): %d; want %d", client, top, want)
	}
}

func rowsOf(x *dedup.Table) []row {
	var l []row
	x.Each(func(client, seq int, answer []byte) bool {
		l = append(l, row{client, seq, string(answer)})
		return true
	})
	return l
}

// wantRows asks for all that there is, in each way that tells it.
func wantRows(t *testing.T, x *dedup.Table, want ...row) {
	t.Helper()
	if l := rowsOf(x); !slices.Equal(l, want) {
		t.Errorf("Each: %v; want %v", l, want)
	}
	if n := x.Len(); n != len(want) {
		t.Errorf("Len: %d; want %d", n, len(want))
	}
	var clients []int
	for _, r := range want {
		clients = append(clients, r.client)
		wantLook(t, x, r.client, r.seq, dedup.Old, r.answer)
	}
	if l := x.Clients(); !slices.Equal(l, slices.Compact(clients)) {
		t.Errorf("Clients: %v; want %v", l, slices.Compact(clients))
	}
}

// ints are numbers as they are laid one behind the other.
func ints(l ...int) []byte {
	w := codec.NewWriter()
	for _, v := range l {
		w.Int(int64(v))
	}
	return w.Done()
}

// laid are the bytes of a table that has these, which stand in their order.
func laid(window int, l ...row) []byte {
	clients, per, top := 0, map[int]int{}, map[int]int{}
	for _, r := range l {
		if per[r.client] == 0 {
			clients++
		}
		per[r.client]++
		top[r.client] = r.seq
	}
	b := ints(window, clients)
	for i, r := range l {
		if i == 0 || l[i-1].client != r.client {
			b = append(b, ints(r.client, top[r.client], per[r.client])...)
		}
		b = append(b, ints(r.seq, len(r.answer))...)
		b = append(b, r.answer...)
	}
	return b
}

func wantEncode(t *testing.T, x *dedup.Table, want []byte) {
	t.Helper()
	if b := x.Encode(); !bytes.Equal(b, want) {
		t.Errorf("Encode: % x; want % x", b, want)
	}
}

func mustDecode(t *testing.T, b []byte) *dedup.Table {
	t.Helper()
	x, err := dedup.Decode(b)
	if x == nil || err != nil {
		t.Fatalf("Decode: %v", err)
	}
	return x
}

func faultOf(t *testing.T, b []byte) *codec.Fault {
	t.Helper()
	x, err := dedup.Decode(b)
	if x != nil {
		t.Errorf("P4: a table beside %v", err)
	}
	var f *codec.Fault
	if !errors.As(err, &f) {
		t.Fatalf("Decode(% x): %v is no Fault", b[:min(len(b), 64)], err)
	}
	if !errors.Is(err, f.Err) || f.Err == api.OK || f.At < 0 || f.At > len(b) {
		t.Errorf("Decode(% x): %v", b[:min(len(b), 64)], err)
	}
	return f
}

// wantFault is of bytes in which one thing alone is wrong.
func wantFault(t *testing.T, b []byte, e api.Errno, at int, what string) {
	t.Helper()
	if f := faultOf(t, b); f.Err != e || f.At != at || f.What != what {
		t.Errorf("Decode(% x): %v; want %v in %s at %d", b[:min(len(b), 64)], f, e, what, at)
	}
}

// wantForm is of bytes in which several things do not fit together: it may be told of any of them.
func wantForm(t *testing.T, b []byte) {
	t.Helper()
	if f := faultOf(t, b); f.Err != api.ErrForm || f.What != "table" {
		t.Errorf("Decode(% x): %v; want form in table", b, f)
	}
}

// roomy is s with spare room behind it, and a check that neither was changed.
func roomy(t *testing.T, s string) (b []byte, check func()) {
	whole := append([]byte(s), "spare room"...)
	before := bytes.Clone(whole)
	return whole[:len(s)], func() {
		t.Helper()
		if !bytes.Equal(whole, before) {
			t.Errorf("P2: what was handed in was changed: %q", whole)
		}
	}
}

// spoil writes over a list and its spare room.
func spoil(b []byte) {
	b = b[:cap(b)]
	for i := range b {
		b[i] = '!'
	}
}
