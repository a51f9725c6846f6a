package dedup_test

import (
	"slices"
	"testing"

	"teasel/api"
	"teasel/dedup"
)

// some are requests of several clients, in the order in which Each tells them.
func some() []row {
	return []row{{0, 3, "a"}, {0, 4, ""}, {2, 9, "bc"}, {10, 1, "d"}, {10, 2, "e"}, {10, 4, "f"}, {api.MaxFlow, mostSeq, "g"}}
}

// mixed are the same, but neither clients nor numbers rise.
func mixed() []row {
	l := some()
	slices.Reverse(l)
	l[1], l[4] = l[4], l[1]
	return l
}

func TestP1102Each(t *testing.T) {
	wantRows(t, newTable(t, 4, some()...), some()...)
	wantRows(t, newTable(t, 4, mixed()...), some()...)
	wantRows(t, newTable(t, 4))
}

// TestP1102Leaves: f is called no more once it has said false.
func TestP1102Leaves(t *testing.T) {
	x := newTable(t, 4, mixed()...)
	for most := 1; most <= len(some())+1; most++ {
		var l []row
		x.Each(func(client, seq int, answer []byte) bool {
			l = append(l, row{client, seq, string(answer)})
			return len(l) < most
		})
		if want := some()[:min(most, len(some()))]; !slices.Equal(l, want) {
			t.Errorf("Each till %d: %v; want %v", most, l, want)
		}
	}
	wantRows(t, x, some()...)
}

func TestP1102Clients(t *testing.T) {
	x := newTable(t, 1)
	for _, client := range []int{5, 1, api.MaxFlow, 0, 3} {
		wantPut(t, x, client, 1, "", dedup.New)
		wantPut(t, x, client, 7, "", dedup.New)
	}
	wantPut(t, x, 4, 0, "", dedup.Bad)
	if l := x.Clients(); !slices.Equal(l, []int{0, 1, 3, 5, api.MaxFlow}) || x.Len() != 5 {
		t.Errorf("%v, %d", l, x.Len())
	}
	x.Look(2, 1)
	x.Top(2)
	if l := x.Clients(); len(l) != 5 {
		t.Errorf("who is only asked for has a request: %v", l)
	}
}

// TestP1102Within: Each goes over what there was when it began (P1, P7), though f puts one in front and one behind each time, and makes others be forgotten.
func TestP1102Within(t *testing.T) {
	x := newTable(t, 4, mixed()...)
	var l []row
	x.Each(func(client, seq int, answer []byte) bool {
		l = append(l, row{client, seq, string(answer)})
		x.Put(api.MaxFlow-len(l), 1, nil)
		x.Put(client, min(seq+10, mostSeq), []byte("new"))
		x.Put(10, 100, []byte("far"))
		return true
	})
	if !slices.Equal(l, some()) {
		t.Errorf("Each: %v; want %v", l, some())
	}
	wantLook(t, x, 10, 4, dedup.Expired, "")
	wantLook(t, x, 0, 14, dedup.Old, "new")
}

// TestP1102EachInEach: one within the other, each whole.
func TestP1102EachInEach(t *testing.T) {
	x := newTable(t, 4, mixed()...)
	n := 0
	x.Each(func(int, int, []byte) bool {
		n++
		wantRows(t, x, some()...)
		return true
	})
	if n != len(some()) {
		t.Errorf("%d were told", n)
	}
}
