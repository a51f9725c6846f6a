package rlog

import (
	"testing"

	"teasel/wal"
)

// TestDroppedIsNotHeld: what the list's memory has beyond its entries holds no Data of dropped ones.
func TestDroppedIsNotHeld(t *testing.T) {
	e := func(term int) wal.Entry { return wal.Entry{Term: term, Data: []byte{1}} }
	g, _ := New(0, 0, e(1), e(1), e(1), e(1))
	memory := g.list[:cap(g.list)]
	g.Compact(1)
	g.Merge(2, e(2)) // ends behind 3
	if memory[0].Data != nil || memory[3].Data != nil {
		t.Errorf("held: %v", memory)
	}
	if g.Len() != 2 || g.list[1].Term != 2 {
		t.Errorf("the list: %v", g.list)
	}
}

// TestCutHasNoRoom: what is laid behind a piece is not laid over the log.
func TestCutHasNoRoom(t *testing.T) {
	g, _ := New(0, 0, wal.Entry{Term: 1}, wal.Entry{Term: 2}, wal.Entry{Term: 3})
	piece := append(g.cut(1, 3), wal.Entry{Term: 9})
	if piece[2].Term != 9 || g.list[2].Term != 3 {
		t.Errorf("the list: %v", g.list)
	}
}
