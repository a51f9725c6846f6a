package event_test

import (
	"slices"
	"testing"

	"teasel/api"
	"teasel/event"
)

// roomy is events with spare room behind them and behind their Data, and a check that nothing of that was changed.
func roomy(t *testing.T, l []api.Event) (with []api.Event, check func()) {
	whole := append(clones(l), api.Event{Kind: -1}, api.Event{Kind: -2})
	for i, e := range whole {
		whole[i].Data = append(slices.Clone(e.Data), "spare"...)[:len(e.Data)]
	}
	before := clones(whole)
	return whole[:len(l)], func() {
		t.Helper()
		if !isSame(whole, before) {
			t.Error("P2: events that were handed in were changed")
		}
		for _, e := range whole {
			if room := e.Data[:cap(e.Data)][len(e.Data):]; string(room[:5]) != "spare" {
				t.Errorf("P2: spare room that was handed in was changed: %q", room)
			}
		}
	}
}

// spoil writes over Data and its spare room.
func spoil(b []byte) {
	b = b[:cap(b)]
	for i := range b {
		b[i] = '!'
	}
}

func TestP2HandedIn(t *testing.T) {
	l, check := roomy(t, full())
	wild, checkWild := roomy(t, append(full()[3:], api.Event{Kind: -1, Ref: 1, Data: []byte("x")}))
	for _, x := range [][]api.Event{l, l[:9], wild} {
		event.Check(x...)
		event.Open(x...)
		event.Status(x...)
		event.Encode(x...)
		event.Prefix(x, l)
		event.Prefix(l, x)
		event.Right(x[0])
	}
	check()
	checkWild()
}

func TestP2Open(t *testing.T) {
	l := till(api.Event{Kind: api.EActivity, At: 10, Id: 1}, api.Event{Kind: api.EChild, At: 10, Id: 1})
	a, b, c := event.Open(l...)
	for _, x := range [][]int{a, b, c} {
		clear(x[:cap(x)])
	}
	if len(a) != 3 || len(b) != 1 || len(c) != 2 {
		t.Errorf("Open: %v, %v, %v", a, b, c)
	}
	wantOpen(t, l, []int{1, 6, 8}, []int{8}, []int{1, 2})
	a, b, c = event.Open(l...)
	clear(a[:cap(a)])
	if !slices.Equal(b, []int{8}) || !slices.Equal(c, []int{1, 2}) {
		t.Errorf("P2: lists of an answer share memory: %v, %v", b, c)
	}
}

func TestP2Encode(t *testing.T) {
	l := full()
	b, other := event.Encode(l...), event.Encode(l...)
	spoil(b)
	for _, e := range l {
		spoil(e.Data)
	}
	if string(other) != string(laid(full()...)) {
		t.Error("P2: an answer shares memory with another one, or with what was handed in")
	}
}

func TestP2Decode(t *testing.T) {
	text := append(laid(full()...), "spare room"...)
	before := string(text)
	in := text[:len(text)-len("spare room")]
	l, err := event.Decode(in)
	other, _ := event.Decode(in)
	if string(text) != before || err != nil {
		t.Fatalf("P2: what was handed in was changed, or %v", err)
	}
	spoil(text)
	for i := range l {
		if string(l[i].Data) != string(full()[i].Data) {
			t.Errorf("P2: Data of event %d shares memory: %q", i+1, l[i].Data)
		}
		spoil(l[i].Data)
	}
	l = l[:cap(l)]
	for i := range l {
		l[i] = api.Event{}
	}
	if !isSame(other, full()) {
		t.Error("P2: two answers share memory")
	}
}

// TestP7Broken: each answer is one of its own.
func TestP7Broken(t *testing.T) {
	bad := api.Event{Kind: api.ESignal}
	one, two := event.Check(bad).(*event.Broken), event.Check(bad).(*event.Broken)
	*one = event.Broken{}
	if two.At != 1 || two.Why != "first" {
		t.Errorf("%v", two)
	}
	wantBroken(t, 1, "first", bad)
}
