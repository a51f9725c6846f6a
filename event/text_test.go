package event_test

import (
	"bytes"
	"errors"
	"math"
	"slices"
	"testing"

	"teasel/api"
	"teasel/codec"
	"teasel/draws"
	"teasel/event"
)

// ints are numbers, one behind the other.
func ints(l ...int) []byte {
	w := codec.NewWriter()
	for _, v := range l {
		w.Int(int64(v))
	}
	return w.Done()
}

// laid is what P1203 says of events.
func laid(l ...api.Event) []byte {
	b := ints(len(l))
	for _, e := range l {
		b = append(b, ints(e.Kind, e.At, e.Ref, e.Id, e.List, e.N, len(e.Data))...)
		b = append(b, e.Data...)
	}
	return b
}

// isSame asks without Prefix.
func isSame(a, b []api.Event) bool {
	return slices.EqualFunc(a, b, func(a, b api.Event) bool {
		return [6]int{a.Kind, a.At, a.Ref, a.Id, a.List, a.N} == [6]int{b.Kind, b.At, b.Ref, b.Id, b.List, b.N} && string(a.Data) == string(b.Data)
	})
}

func faultOf(t *testing.T, b []byte) *codec.Fault {
	t.Helper()
	l, err := event.Decode(b)
	var f *codec.Fault
	if !errors.As(err, &f) || !errors.Is(err, f.Err) || f.Err == api.OK {
		t.Fatalf("Decode(% x): %v is no Fault", b[:min(len(b), 20)], err)
	}
	if len(l) != 0 {
		t.Errorf("P4: %d events beside %v", len(l), err)
	}
	return f
}

func wantFault(t *testing.T, b []byte, e api.Errno, at int, what string) {
	t.Helper()
	if f := faultOf(t, b); f.Err != e || f.At != at || f.What != what {
		t.Errorf("Decode(% x): %v; want %v in %s at %d", b[:min(len(b), 20)], f, e, what, at)
	}
}

func TestP1203Encode(t *testing.T) {
	for _, x := range []struct {
		l    []api.Event
		want string
	}{
		{nil, "\x00"},
		{[]api.Event{}, "\x00"},
		{[]api.Event{{Kind: api.EStarted}}, "\x02" + "\x02\x00\x00\x00\x00\x00\x00"},
		{[]api.Event{{Kind: 23, At: 1, Ref: 2, Id: 3, List: 4, N: 64, Data: []byte("ab")}, {Kind: 15, Data: []byte{}}},
			"\x04" + "\x2e\x02\x04\x06\x08\x80\x01\x04ab" + "\x1e\x00\x00\x00\x00\x00\x00"},
	} {
		if b := event.Encode(x.l...); string(b) != x.want {
			t.Errorf("Encode: % x; want % x", b, x.want)
		}
	}
	for n := range len(full()) + 1 {
		if b := event.Encode(full()[:n]...); !bytes.Equal(b, laid(full()[:n]...)) {
			t.Errorf("Encode of %d events tells otherwise", n)
		}
	}
	wild := []api.Event{{Kind: -1, At: math.MinInt, Ref: math.MaxInt, Id: -2, List: most + 1, N: -most, Data: make([]byte, api.MaxData+1)}, {}}
	if !bytes.Equal(event.Encode(wild...), laid(wild...)) {
		t.Error("Encode of what is not Right tells otherwise")
	}
}

func wantThereAndBack(t *testing.T, l ...api.Event) {
	t.Helper()
	x, err := event.Decode(laid(l...))
	if err != nil || !isSame(x, l) {
		t.Errorf("Decode of %d events: %d, %v", len(l), len(x), err)
	}
}

func TestP1203Decode(t *testing.T) {
	for n := range len(full()) + 1 {
		wantThereAndBack(t, full()[:n]...)
		wantThereAndBack(t, full()[n:]...) // none of Check's, but events
	}
	for kind := 1; kind <= lastKind; kind++ {
		wantThereAndBack(t, api.Event{Kind: kind, At: most, Ref: most, Id: most, List: most, N: most, Data: make([]byte, api.MaxData)})
	}
	for _, v := range []int{0, 1, most - 1, most} {
		for _, other := range []int{0, 5, most} {
			each(v, other, func(e api.Event) { wantThereAndBack(t, e, e) })
		}
	}
}

func TestP1203Count(t *testing.T) {
	l := make([]api.Event, api.MaxEvents+1)
	for i := range l {
		l[i] = api.Event{Kind: 1 + i%lastKind, At: i, Ref: i % 7, Data: make([]byte, i%3)}
	}
	wantThereAndBack(t, l[:api.MaxEvents]...)
	wantThereAndBack(t, l[:api.MaxEvents-1]...)
	wantFault(t, laid(l...), api.ErrForm, 0, "count")
	if !bytes.Equal(event.Encode(l...), laid(l...)) {
		t.Error("Encode of too many tells otherwise")
	}
	for _, n := range []int{-1, -2, api.MaxEvents + 1, 1 << 32, 1<<32 + 1, math.MaxInt, math.MinInt} {
		wantFault(t, ints(n), api.ErrForm, 0, "count")
	}
	wantFault(t, nil, api.ErrShort, 0, "count")
	wantFault(t, []byte{0x82}, api.ErrShort, 0, "count")
	wantFault(t, []byte{0x82, 0}, api.ErrForm, 0, "count")
	for _, n := range []int{1, 2, api.MaxEvents} {
		wantFault(t, ints(n), api.ErrShort, len(ints(n)), "event") // bytes that claim to have more than they have
	}
}

// TestP1203Number: each of an event's numbers, in the first event and in the second one.
func TestP1203Number(t *testing.T) {
	for _, ahead := range [][]int{{1}, {2, api.EStarted, 0, 0, 0, 0, 0, 0}} {
		for field := range 6 {
			l := append(slices.Clone(ahead), make([]int, 7)...)
			l[len(ahead)] = api.ESignal
			place := len(ahead) + field
			at := len(ints(l[:place]...))
			bad := farOff()
			if field == 0 {
				bad = notKinds()
			}
			for _, v := range bad {
				l[place] = v
				wantFault(t, ints(l...), api.ErrForm, at, "event")
			}
			for _, text := range []string{"\x80\x00", "\xff\xff\xff\xff\xff\xff\xff\xff\xff\x02"} {
				b := append(ints(l[:place]...), text...)
				wantFault(t, append(b, ints(l[place+1:]...)...), api.ErrForm, at, "event")
			}
		}
	}
}

func TestP1203Data(t *testing.T) {
	ahead := []int{1, api.ESignal, 0, 0, 0, 0, 0}
	for _, x := range []struct {
		n int
		e api.Errno
	}{
		{-1, api.ErrForm}, {math.MinInt, api.ErrForm}, {api.MaxData + 1, api.ErrLong}, {math.MaxInt, api.ErrLong}, {api.MaxData, api.ErrShort}, {1, api.ErrShort},
	} {
		wantFault(t, ints(append(ahead, x.n)...), x.e, 7, "data")
	}
	wantFault(t, laid(api.Event{Kind: api.ESignal, Data: make([]byte, api.MaxData+1)}), api.ErrLong, 7, "data")
	wantFault(t, append(ints(ahead...), 0x80, 0), api.ErrForm, 7, "data")
}

// TestP1203Ends: within each number and each Data, and behind the last one.
func TestP1203Ends(t *testing.T) {
	b := laid(full()...)
	for n := range b {
		f := faultOf(t, b[:n])
		if f.Err != api.ErrShort || f.What != "event" && f.What != "data" && n > 0 {
			t.Errorf("%d bytes: %v", n, f)
		}
	}
	one := laid(api.Event{Kind: api.ESignal, Data: []byte("ab")})
	for n, what := range []string{"count", "event", "event", "event", "event", "event", "event", "data"} {
		wantFault(t, one[:n], api.ErrShort, n, what)
	}
	wantFault(t, one[:8], api.ErrShort, 7, "data")
	wantFault(t, one[:9], api.ErrShort, 7, "data")
	wantFault(t, append(bytes.Clone(one), 0), api.ErrForm, len(one), "end")
	wantFault(t, append(bytes.Clone(b), b...), api.ErrForm, len(b), "end")
	wantFault(t, []byte{0, 0}, api.ErrForm, 1, "end")
}

// TestP1203Any (P1): of any bytes Decode ends; what it reads is Right, and laid as those bytes.
func TestP1203Any(t *testing.T) {
	d := draws.New(1203)
	start := laid(full()[:12]...)
	read := 0
	for range 50000 {
		b := bytes.Clone(start)
		for range d.Between(1, 3) {
			b[d.Below(len(b))] = byte(d.Next())
		}
		b = b[:len(b)-d.Below(8)/7]
		l, err := event.Decode(b)
		if err != nil {
			faultOf(t, b)
			continue
		}
		read++
		if !bytes.Equal(event.Encode(l...), b) || slices.ContainsFunc(l, func(e api.Event) bool { return !event.Right(e) }) {
			t.Fatalf("% x is read as %v", b, l)
		}
	}
	if read < 1000 {
		t.Errorf("%d were read", read)
	}
}

func wantPrefix(t *testing.T, a, b []api.Event, want bool) {
	t.Helper()
	if is := event.Prefix(a, b); is != want {
		t.Errorf("Prefix of %d and %d events: %v; want %v", len(a), len(b), is, want)
	}
}

func TestP1203Prefix(t *testing.T) {
	l := full()
	for n := range len(l) + 1 {
		for k := range len(l) + 1 {
			wantPrefix(t, l[:n], full()[:k], n <= k)
		}
		wantPrefix(t, l[:n], l[1:], n == 0)
	}
	wantPrefix(t, nil, nil, true)
	wantPrefix(t, []api.Event{}, nil, true)
	wantPrefix(t, nil, []api.Event{}, true)
	wantPrefix(t, []api.Event{{}}, nil, false)
	wantPrefix(t, []api.Event{{}}, []api.Event{{Data: []byte{}}}, true)
	wantPrefix(t, []api.Event{{Data: []byte{}}}, []api.Event{{}}, true)
}

// TestP1203PrefixFields: each field of each event counts, what stands behind a does not.
func TestP1203PrefixFields(t *testing.T) {
	for i := range full() {
		for _, change := range []func(e *api.Event){
			func(e *api.Event) { e.Kind++ },
			func(e *api.Event) { e.At++ },
			func(e *api.Event) { e.Ref++ },
			func(e *api.Event) { e.Id-- },
			func(e *api.Event) { e.List += 1 << 32 },
			func(e *api.Event) { e.N-- },
			func(e *api.Event) { e.Data = append(bytes.Clone(e.Data), 0) },
			func(e *api.Event) { e.Data = append([]byte{1}, e.Data...) },
		} {
			a, b := full(), full()
			change(&a[i])
			wantPrefix(t, a, b, false)
			wantPrefix(t, b, a, false)
			wantPrefix(t, a[:i], b, true)
			wantPrefix(t, a[:i+1], b, false)
			change(&b[i])
			wantPrefix(t, a, b, true)
		}
	}
	a, b := []api.Event{{Data: []byte("ab")}}, []api.Event{{Data: []byte("ac")}}
	wantPrefix(t, a, b, false)
}
