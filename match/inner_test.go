package match

import "testing"

// TestGoneIsNotHeld: a row's memory holds no task that was taken or dropped.
func TestGoneIsNotHeld(t *testing.T) {
	m, _ := New[*int](8)
	for range 5 {
		m.Push(1, new(int))
	}
	memory := m.rows[1][:cap(m.rows[1])]
	m.Pop(1)
	n := 0
	m.Keep(1, func(*int) bool {
		n++
		return n%2 == 0
	})
	held := 0
	for _, p := range memory {
		if p.task != nil {
			held++
		}
	}
	if held != 2 || m.Len(1) != 2 {
		t.Errorf("%d are held; the list has %d", held, m.Len(1))
	}
}

// TestNoneIsNotHeld: nothing is kept of a list that has no task any more.
func TestNoneIsNotHeld(t *testing.T) {
	m, _ := New[int](2)
	for list := range 3 {
		m.Push(list, 1)
	}
	m.Pop(0)
	m.Clear(1)
	m.Keep(2, func(int) bool { return false })
	m.Keep(3, func(int) bool { return false })
	m.Peek(4)
	if len(m.rows) != 0 {
		t.Errorf("rows: %v", m.rows)
	}
}
