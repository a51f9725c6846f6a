package dedup_test

import (
	"bytes"
	"slices"
	"testing"

	"teasel/dedup"
	"teasel/draws"
)

// slowTable has all that was ever put as New, and asks all of it for each question.
type slowTable struct {
	window int
	put    []row
}

func (s *slowTable) top(client int) int {
	top := 0
	for _, r := range s.put {
		if r.client == client {
			top = max(top, r.seq)
		}
	}
	return top
}

func (s *slowTable) look(client, seq int) (int, string) {
	if client < 0 || client > 1<<20 || seq < 1 || seq > mostSeq {
		return dedup.Bad, ""
	}
	if seq <= s.top(client)-s.window {
		return dedup.Expired, ""
	}
	for _, r := range s.put {
		if r.client == client && r.seq == seq {
			return dedup.Old, r.answer
		}
	}
	return dedup.New, ""
}

func (s *slowTable) rows() []row {
	var l []row
	for _, r := range s.put {
		if kind, _ := s.look(r.client, r.seq); kind == dedup.Old {
			l = append(l, r)
		}
	}
	slices.SortFunc(l, func(a, b row) int {
		if a.client != b.client {
			return a.client - b.client
		}
		return a.seq - b.seq
	})
	return l
}

// drawnPut is mostly of a client whose numbers go on; some lie far behind or ahead, or may not be.
func drawnPut(s *draws.Source, top func(int) int) row {
	client := s.Between(0, 4) - s.Below(20)/19
	seq := top(client) + s.Between(-7, 3)
	if s.Below(40) == 0 {
		seq += s.Below(30)
	}
	return row{client, seq, string(bytes.Repeat([]byte{byte(s.Next())}, s.Below(4)))}
}

func TestP1101AgainstSlowTable(t *testing.T) {
	for seed := range uint64(150) {
		s := draws.New(seed)
		slow := &slowTable{window: s.Between(1, 6)}
		x := newTable(t, slow.window)
		for range 120 {
			r := drawnPut(s, slow.top)
			kind, answer := slow.look(r.client, r.seq)
			wantLook(t, x, r.client, r.seq, kind, answer)
			wantPut(t, x, r.client, r.seq, r.answer, kind)
			if kind == dedup.New {
				slow.put = append(slow.put, r)
			}
			wantTop(t, x, r.client, slow.top(r.client))
			if s.Below(30) == 0 {
				x = mustDecode(t, x.Encode())
			}
		}
		wantRows(t, x, slow.rows()...)
		wantEncode(t, x, laid(slow.window, slow.rows()...))
		if t.Failed() {
			t.Fatalf("with seed %d", seed)
		}
	}
}

// TestP1103Order: clients come in whatever order, each one's requests in the same.
func TestP1103Order(t *testing.T) {
	for seed := range uint64(100) {
		s := draws.New(seed)
		window := s.Between(1, 6)
		lines := map[int][]row{}
		for range 60 {
			r := drawnPut(s, func(client int) int { return 5 + len(lines[client]) })
			lines[r.client] = append(lines[r.client], r)
		}
		x := newTable(t, window)
		for client := -1; client < 5; client++ {
			for _, r := range lines[client] {
				x.Put(r.client, r.seq, []byte(r.answer))
			}
		}
		y := newTable(t, window)
		for left := 60; left > 0; {
			client := s.Between(-1, 4)
			if l := lines[client]; len(l) > 0 {
				y.Put(client, l[0].seq, []byte(l[0].answer))
				lines[client] = l[1:]
				left--
			}
		}
		if a, b := x.Encode(), y.Encode(); !bytes.Equal(a, b) || len(a) < 10 {
			t.Fatalf("seed %d: % x and % x", seed, a, b)
		}
	}
}

// TestP1103Kept: what is remembered is told, not how it came to be.
func TestP1103Kept(t *testing.T) {
	x := newTable(t, 2, row{1, 1, "a"}, row{1, 5, "b"}, row{1, 9, "c"}, row{1, 8, "d"})
	y := newTable(t, 2, row{1, 8, "d"}, row{1, 9, "c"})
	wantEncode(t, y, x.Encode())
}
