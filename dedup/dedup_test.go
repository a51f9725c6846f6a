package dedup_test

import (
	"math"
	"strconv"
	"testing"

	"teasel/api"
	"teasel/dedup"
)

func TestP1101NewTable(t *testing.T) {
	for _, window := range []int{1, 2, 3, mostWindow - 1, mostWindow} {
		x := newTable(t, window)
		wantRows(t, x)
		wantTop(t, x, 0, 0)
		for _, client := range []int{0, 1, api.MaxFlow} {
			for _, seq := range []int{1, 2, window, window + 1, mostSeq} {
				wantLook(t, x, client, seq, dedup.New, "")
			}
		}
		wantEncode(t, x, laid(window))
	}
}

func TestP1101NewTableArg(t *testing.T) {
	for _, window := range append(notSeqs(), mostWindow+1, mostWindow+2, 1<<32, 1<<32+1) {
		if x, e := dedup.NewTable(window); x != nil || e != api.ErrArg {
			t.Errorf("NewTable(%d): %v; want arg", window, e)
		}
	}
}

// TestP1101Bad: of a table that has requests at all bounds; what is Bad has no effect (P5).
func TestP1101Bad(t *testing.T) {
	l := []row{{0, 1, "a"}, {0, mostWindow, "b"}, {5, mostSeq, "c"}, {api.MaxFlow, 3, "d"}}
	x := newTable(t, mostWindow, l...)
	wantBad := func(client, seq int) {
		t.Helper()
		wantLook(t, x, client, seq, dedup.Bad, "")
		wantPut(t, x, client, seq, "bad", dedup.Bad)
	}
	for _, client := range notClients() {
		for _, seq := range append(notSeqs(), 1, 3, mostSeq) {
			wantBad(client, seq)
		}
		wantTop(t, x, client, 0)
	}
	for _, seq := range notSeqs() {
		for _, client := range []int{0, 5, 7, api.MaxFlow} {
			wantBad(client, seq)
		}
	}
	wantRows(t, x, l...)
	wantEncode(t, x, laid(mostWindow, l...))
}

func TestP1101Bounds(t *testing.T) {
	x := newTable(t, 2)
	for _, client := range []int{0, api.MaxFlow} {
		for _, seq := range []int{1, mostSeq - 1, mostSeq} {
			text := strconv.Itoa(client) + " " + strconv.Itoa(seq)
			wantPut(t, x, client, seq, text, dedup.New)
			wantLook(t, x, client, seq, dedup.Old, text)
			wantTop(t, x, client, seq)
		}
		wantLook(t, x, client, mostSeq-2, dedup.Expired, "")
	}
	wantRows(t, x, row{0, mostSeq - 1, "0 1099511627775"}, row{0, mostSeq, "0 1099511627776"},
		row{api.MaxFlow, mostSeq - 1, "1048576 1099511627775"}, row{api.MaxFlow, mostSeq, "1048576 1099511627776"})
}

// TestP1101Expired: Top less window is, the one behind it not, for each window.
func TestP1101Expired(t *testing.T) {
	for window := 1; window <= mostWindow; window++ {
		x := newTable(t, window, row{3, 5000, "top"})
		wantLook(t, x, 3, 5000-window, dedup.Expired, "")
		wantPut(t, x, 3, 5000-window, "no", dedup.Expired)
		wantLook(t, x, 3, 1, dedup.Expired, "")
		wantLook(t, x, 3, 0, dedup.Bad, "")
		wantLook(t, x, 3, 5001, dedup.New, "")
		wantLook(t, x, 2, 1, dedup.New, "")
		if window == 1 {
			wantRows(t, x, row{3, 5000, "top"})
			continue
		}
		wantLook(t, x, 3, 5001-window, dedup.New, "")
		wantPut(t, x, 3, 5001-window, "last", dedup.New)
		wantRows(t, x, row{3, 5001 - window, "last"}, row{3, 5000, "top"})
	}
}

// TestP1101WithinWindow: as long as Top is no more than window, nothing is Expired.
func TestP1101WithinWindow(t *testing.T) {
	x := newTable(t, 5, row{1, 5, "e"})
	for seq := 1; seq < 5; seq++ {
		wantLook(t, x, 1, seq, dedup.New, "")
	}
	wantPut(t, x, 1, 6, "f", dedup.New)
	wantLook(t, x, 1, 1, dedup.Expired, "")
	wantLook(t, x, 1, 2, dedup.New, "")
}

func TestP1101Old(t *testing.T) {
	x := newTable(t, 4, row{1, 2, "first"}, row{1, 1, ""}, row{2, 2, "other"})
	for range 3 {
		wantPut(t, x, 1, 2, "second", dedup.Old)
		wantPut(t, x, 1, 1, "second", dedup.Old)
		wantPut(t, x, 2, 2, "", dedup.Old)
		wantRows(t, x, row{1, 1, ""}, row{1, 2, "first"}, row{2, 2, "other"})
	}
	wantTop(t, x, 1, 2)
	wantTop(t, x, 2, 2)
	wantTop(t, x, 3, 0)
}

// TestP1101Forgotten: those that are Expired go, of that client alone, and don't come back.
func TestP1101Forgotten(t *testing.T) {
	x := newTable(t, 3, row{1, 1, "a"}, row{1, 3, "c"}, row{1, 2, "b"}, row{2, 1, "A"})
	wantPut(t, x, 1, 4, "d", dedup.New)
	wantRows(t, x, row{1, 2, "b"}, row{1, 3, "c"}, row{1, 4, "d"}, row{2, 1, "A"})
	wantPut(t, x, 1, 1, "again", dedup.Expired)
	wantPut(t, x, 1, 6, "f", dedup.New)
	wantRows(t, x, row{1, 4, "d"}, row{1, 6, "f"}, row{2, 1, "A"})
	wantPut(t, x, 1, 5, "e", dedup.New)
	wantTop(t, x, 1, 6)
	wantRows(t, x, row{1, 4, "d"}, row{1, 5, "e"}, row{1, 6, "f"}, row{2, 1, "A"})
	wantPut(t, x, 1, mostSeq, "z", dedup.New)
	wantRows(t, x, row{1, mostSeq, "z"}, row{2, 1, "A"})
	for seq := 1; seq <= 6; seq++ {
		wantLook(t, x, 1, seq, dedup.Expired, "")
	}
}

// TestP1101Window: of so many requests the last ones are remembered, whatever the window.
func TestP1101Window(t *testing.T) {
	for _, window := range []int{1, 2, 7, mostWindow} {
		x := newTable(t, window)
		last := 2*window + 3
		for seq := 1; seq <= last; seq++ {
			wantPut(t, x, 9, seq, strconv.Itoa(seq), dedup.New)
			wantTop(t, x, 9, seq)
			if n := x.Len(); n != min(seq, window) {
				t.Fatalf("window %d: %d answers behind %d requests", window, n, seq)
			}
		}
		var want []row
		for seq := last - window + 1; seq <= last; seq++ {
			want = append(want, row{9, seq, strconv.Itoa(seq)})
		}
		wantRows(t, x, want...)
		wantEncode(t, x, laid(window, want...))
	}
}

// TestP1101Falling: the greatest one comes first; what comes late is put as long as it is not Expired.
func TestP1101Falling(t *testing.T) {
	x := newTable(t, 4)
	var want []row
	for seq := 10; seq >= 1; seq-- {
		kind := dedup.Expired
		if seq > 6 {
			kind = dedup.New
			want = append([]row{{0, seq, strconv.Itoa(seq)}}, want...)
		}
		wantPut(t, x, 0, seq, strconv.Itoa(seq), kind)
		wantTop(t, x, 0, 10)
	}
	wantRows(t, x, want...)
}

// TestP1None: a table that NewTable did not make has no requests, but nothing panics.
func TestP1None(t *testing.T) {
	x := new(dedup.Table)
	for _, v := range []int{math.MinInt, -1, 0, 1, 2, mostSeq, math.MaxInt} {
		for _, client := range []int{math.MinInt, -1, 0, 1, api.MaxFlow, math.MaxInt} {
			wantPut(t, x, client, v, "a", dedup.Bad)
			wantLook(t, x, client, v, dedup.Bad, "")
			wantTop(t, x, client, 0)
		}
	}
	wantRows(t, x)
	faultOf(t, x.Encode())
}
