package match_test

import (
	"cmp"
	"slices"
	"strconv"
	"testing"

	"teasel/api"
	"teasel/draws"
	"teasel/match"
)

// slowLists has all tasks of all lists in the order in which they were pushed.
type slowLists struct {
	most  int
	tasks []row
}

func (s *slowLists) count(list int) int { return len(namesOf(s.tasks, list)) }

func (s *slowLists) push(list int, task string) api.Errno {
	if s.count(list) == s.most {
		return api.ErrFull
	}
	s.tasks = append(s.tasks, row{list, task})
	return api.OK
}

func (s *slowLists) peek(list int) (string, bool) {
	for _, r := range s.tasks {
		if r.list == list {
			return r.task, true
		}
	}
	return "", false
}

func (s *slowLists) pop(list int) (string, bool) {
	task, is := s.peek(list)
	if is {
		at := slices.Index(s.tasks, row{list, task})
		s.tasks = slices.Delete(s.tasks, at, at+1)
	}
	return task, is
}

func (s *slowLists) keep(list int, f func(string) bool) int {
	had := len(s.tasks)
	s.tasks = slices.DeleteFunc(s.tasks, func(r row) bool { return r.list == list && !f(r.task) })
	return had - len(s.tasks)
}

func (s *slowLists) rows() []row {
	l := slices.Clone(s.tasks)
	slices.SortStableFunc(l, func(a, b row) int { return cmp.Compare(a.list, b.list) })
	return l
}

// step makes one drawn call of both.
func step(t *testing.T, s *draws.Source, m *match.Lists[string], slow *slowLists) {
	list := s.Between(-2, 2) << (s.Below(2) * 40)
	switch s.Below(12) {
	case 0:
		wantClear(t, m, list, slow.keep(list, never))
	case 1, 2:
		by := s.Between(2, 4)
		f := func(task string) bool { return len(task)%by > 0 }
		asked := namesOf(slow.tasks, list)
		wantKeep(t, m, list, f, slow.keep(list, f), asked...)
	case 3, 4, 5:
		task, is := slow.peek(list)
		wantPeek(t, m, list, task, is)
		task, is = slow.pop(list)
		wantPop(t, m, list, task, is)
	default:
		task := strconv.Itoa(s.Below(2000))
		wantPush(t, m, list, task, slow.push(list, task))
	}
	wantList(t, m, list, slow.count(list), slow.count(list) == slow.most)
}

func TestP1401AgainstSlowLists(t *testing.T) {
	for seed := range uint64(150) {
		s := draws.New(seed)
		slow := &slowLists{most: s.Between(1, 9)}
		m := newLists[string](t, slow.most)
		for range 200 {
			before, all := slow.rows(), m.All()
			step(t, s, m, slow)
			wantSeq(t, all, before...)
			wantRows(t, m, slow.most, slow.rows()...)
		}
		if t.Failed() {
			t.Fatalf("with seed %d", seed)
		}
	}
}

// TestP3Alike: the same calls answer the same, in whatever order a map tells its keys.
func TestP3Alike(t *testing.T) {
	for seed := range uint64(20) {
		var told [2][]row
		for i := range told {
			s := draws.New(seed)
			m := newLists[string](t, 1024)
			for n := range 500 {
				m.Push(s.Between(-100, 100), strconv.Itoa(n))
			}
			for list, task := range m.All() {
				told[i] = append(told[i], row{list, task})
			}
		}
		if !slices.Equal(told[0], told[1]) || len(told[0]) != 500 {
			t.Fatalf("seed %d: %v and %v", seed, told[0], told[1])
		}
	}
}
