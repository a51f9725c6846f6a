package match

import (
	"iter"
	"maps"
	"slices"
)

// Names tells the lists that have a task, rising.
func (m *Lists[T]) Names() []int { return slices.Sorted(maps.Keys(m.rows)) }

// All goes over each list's number and task, by list, in order. The rows are made ahead of the ranging, as they are now.
func (m *Lists[T]) All() iter.Seq2[int, T] {
	names := m.Names()
	rows := make([]iter.Seq[placed[T]], len(names))
	for i, list := range names {
		rows[i] = m.row(list)
	}
	return func(yield func(int, T) bool) {
		for i, list := range names {
			for p := range rows[i] {
				if !yield(list, p.task) {
					return
				}
			}
		}
	}
}

// row goes over a list as it is now, whatever comes and goes meanwhile.
func (m *Lists[T]) row(list int) iter.Seq[placed[T]] {
	return slices.Values(slices.Clone(m.rows[list]))
}
