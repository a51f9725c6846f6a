package dedup

import (
	"bytes"
	"maps"
	"slices"
)

// entry is a request with its answer.
type entry struct {
	key
	answer []byte
}

// Clients tells those that have requests.
func (t *Table) Clients() []int { return slices.Sorted(maps.Keys(t.rows)) }

// Len tells how many answers there are.
func (t *Table) Len() int { return len(t.answers) }

// Each hands f copies, which it may keep and change.
func (t *Table) Each(f func(client, seq int, answer []byte) bool) {
	t.walk(func(e entry) bool {
		return f(e.client, e.seq, bytes.Clone(e.answer))
	})
}

// walk goes over what there is when it begins: a step may put more into the table, or make it forget.
func (t *Table) walk(step func(e entry) bool) {
	for _, e := range t.entries() {
		if !step(e) {
			return
		}
	}
}

// entries tells all there is, by client, then seq.
func (t *Table) entries() []entry {
	l := make([]entry, 0, len(t.answers))
	for _, client := range t.Clients() {
		for _, seq := range t.rows[client] {
			k := key{client, seq}
			l = append(l, entry{k, t.answers[k]})
		}
	}
	return l
}
