package timers

import "slices"

// held is an item, and where it is held.
type held struct {
	item  Item
	place int
}

func (x *held) less(y *held) bool { return Less(x.item, y.item) }

// owner is the run that an item is of.
type owner struct{ flow, run int }

func ownerOf(i Item) owner { return owner{i.Flow, i.Run} }

// Heap has items.
type Heap struct {
	all  []*held                  // behind place p stand 2p+1 and 2p+2, and neither is less
	runs map[owner]map[Item]*held // those of each run that has any
}

func New() *Heap { return &Heap{} }

// Add lays i among the others, if there is none such.
func (h *Heap) Add(i Item) bool {
	if h.find(i) != nil {
		return false
	}
	x := &held{i, len(h.all)}
	h.all = append(h.all, x)
	h.list(x)
	h.rise(x)
	return true
}

// Remove takes i out.
func (h *Heap) Remove(i Item) bool {
	x := h.find(i)
	if x == nil {
		return false
	}
	h.pull(x)
	return true
}

// Next tells the least one.
func (h *Heap) Next() (Item, bool) {
	if len(h.all) == 0 {
		return Item{}, false
	}
	return h.all[0].item, true
}

// Take takes the least one out, if it is due.
func (h *Heap) Take(now int) (Item, bool) {
	i, is := h.Next()
	if !is || i.At > now {
		return Item{}, false
	}
	return i, h.Remove(i)
}

// Drop takes all of a run out. In which order they go may show in the places of those that are left, but no answer tells places.
func (h *Heap) Drop(flow, run int) int {
	gone := 0
	for _, x := range h.runs[owner{flow, run}] {
		h.pull(x)
		gone++
	}
	return gone
}

// Len tells how many there are.
func (h *Heap) Len() int { return len(h.all) }

// List tells all, rising.
func (h *Heap) List() []Item {
	l := make([]Item, len(h.all))
	for place, x := range h.all {
		l[place] = x.item
	}
	slices.SortFunc(l, compare)
	return l
}

func (h *Heap) find(i Item) *held { return h.runs[ownerOf(i)][i] }

// list enters x with its run. The maps are made here, and not by New, so that a heap that is declared does not panic.
func (h *Heap) list(x *held) {
	o := ownerOf(x.item)
	if h.runs == nil {
		h.runs = map[owner]map[Item]*held{}
	}
	if h.runs[o] == nil {
		h.runs[o] = map[Item]*held{}
	}
	h.runs[o][x.item] = x
}

// unlist strikes x off; nothing is kept of a run without items.
func (h *Heap) unlist(x *held) {
	o := ownerOf(x.item)
	delete(h.runs[o], x.item)
	if len(h.runs[o]) == 0 {
		delete(h.runs, o)
	}
}

// pull takes x out; the last one stands in for it, and goes where it belongs.
func (h *Heap) pull(x *held) {
	end := len(h.all) - 1
	last := h.all[end]
	h.swap(x, last)
	h.all = slices.Delete(h.all, end, end+1)
	h.unlist(x)
	if last != x {
		h.rise(last)
		h.sink(last)
	}
}

// rise brings x ahead of all on its way that it is less than.
func (h *Heap) rise(x *held) {
	for x.place > 0 {
		ahead := h.all[(x.place-1)/2]
		if !x.less(ahead) {
			return
		}
		h.swap(x, ahead)
	}
}

// sink brings x behind all on its way that are less.
func (h *Heap) sink(x *held) {
	for {
		least, is := Least(h.behind(x.place), (*held).less)
		if !is || !least.less(x) {
			return
		}
		h.swap(x, least)
	}
}

// behind are those right behind a place.
func (h *Heap) behind(place int) []*held {
	end := len(h.all)
	return h.all[min(2*place+1, end):min(2*place+3, end)]
}

func (h *Heap) swap(x, y *held) {
	x.place, y.place = y.place, x.place
	h.all[x.place], h.all[y.place] = x, y
}
