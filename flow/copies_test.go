package flow_test

import (
	"bytes"
	"testing"

	"teasel/api"
	"teasel/flow"
)

// roomy is s with spare room behind it, and a check that neither was changed.
func roomy(t *testing.T, s string) (b []byte, check func()) {
	whole := append([]byte(s), "spare room"...)
	before := bytes.Clone(whole)
	return whole[:len(s)], func() {
		t.Helper()
		if !bytes.Equal(whole, before) {
			t.Errorf("P2: what was handed in was changed: %q", whole)
		}
	}
}

// spoil writes over a list and its spare room.
func spoil(b []byte) {
	b = b[:cap(b)]
	for i := range b {
		b[i] = '!'
	}
}

func spoilOuts(l []flow.Out) {
	for _, o := range l {
		spoil(o.Data)
	}
	clear(l[:cap(l)])
}

func TestP2New(t *testing.T) {
	data, check := roomy(t, "in")
	f, outs, _ := flow.New(3, 7, 2, 10, data, 5)
	check()
	spoil(data)
	spoilOuts(outs)
	wantAlike(t, f, begin(t))
}

// TestP2Data: what the calls are handed is not kept, and nothing that they answer.
func TestP2Data(t *testing.T) {
	for _, c := range good(9) {
		f, g := rich(t), rich(t)
		do(t, g, c)
		data, check := roomy(t, string(c.data))
		c.data = data
		outs, e := c.on(f)
		if e != api.OK {
			t.Fatalf("%s: %v", c.name, e)
		}
		check()
		spoil(data)
		spoilOuts(outs)
		wantAlike(t, f, g)
	}
}

func TestP2Decisions(t *testing.T) {
	for _, ending := range []api.Decision{dTimer(1, 1), dComplete("e"), dContinue("n"), dUnset(9)} {
		f := after(t, decides(2, 0, 5))
		g := f.Twin()
		plain := []api.Decision{dActivity(1, 1, 1, "a"), dChild(1, 1, 1, "c"), ending}
		want, e := g.Decide(2, 0, plain, 5)
		l := append([]api.Decision(nil), append(plain, dFail("spare"), dFail("room"))...)
		var checks []func()
		for i := range l {
			data, check := roomy(t, string(l[i].Data))
			l[i].Data = data
			checks = append(checks, check)
		}
		outs, err := f.Decide(2, 0, l[:3], 5)
		if err != e || !sameOuts(outs, want) {
			t.Fatalf("%v, %v; want %v, %v", outs, err, want, e)
		}
		for _, check := range checks {
			check()
		}
		if l[0].Kind != api.DActivity || l[2].Kind != ending.Kind || l[3].Kind != api.DFail || l[4].Kind != api.DFail || l[0].Id != 1 {
			t.Errorf("P2: decisions were changed: %+v", l)
		}
		for i := range l {
			spoil(l[i].Data)
		}
		clear(l)
		spoilOuts(outs)
		wantAlike(t, f, g)
	}
}

func TestP2May(t *testing.T) {
	data, check := roomy(t, "abc")
	d := api.Decision{Kind: api.DActivity, N: 1, Data: data}
	flow.May(d)
	check()
}

func TestP2Seen(t *testing.T) {
	f, g := rich(t), rich(t)
	do(t, f, terminate("end", 9))
	do(t, g, terminate("end", 9))
	for range 2 {
		l, other := f.Events(1), f.Events(1)
		for i := range l {
			spoil(l[i].Data)
		}
		clear(l[:cap(l)])
		spoil(f.Result())
		spoil(f.Encode())
		if !sameEvents(other, g.Events(1)) {
			t.Error("P2: two answers share memory")
		}
		wantAlike(t, f, g)
	}
	l := g.Events(1)
	spoil(l[0].Data)
	if string(l[19].Data) != "" || string(l[12].Data) != "s" || string(l[4].Data) != "a" {
		t.Error("P2: lists of an answer share memory")
	}
}

// TestP2Room: the spare room behind each Data of an answer is its own.
func TestP2Room(t *testing.T) {
	f := after(t, signal("a", 5), signal("b", 5), signal("c", 5))
	l := f.Events(1)
	for i := range l {
		l[i].Data = append(l[i].Data, "more"...)
	}
	for i, s := range []string{"inmore", "more", "amore", "bmore", "cmore"} {
		if string(l[i].Data) != s {
			t.Errorf("%q; want %q", l[i].Data, s)
		}
	}
	wantAlike(t, f, after(t, signal("a", 5), signal("b", 5), signal("c", 5)))
}

func TestP2Decode(t *testing.T) {
	b, check := roomy(t, string(rich(t).Encode()))
	f := mustDecode(t, b)
	flow.Decode(b[:len(b)-1])
	check()
	spoil(b)
	wantAlike(t, f, rich(t))
	do(t, f, signal("more", 9))
}
