package disk

// queue has the pending writes in their order: each may be kept without those ahead of it and behind it.
type queue struct {
	size    int
	sectors []int       // of each write
	bytes   []byte      // of all writes, end to end
	newest  map[int]int // each sector's last write
}

func newQueue(size int) queue { return queue{size: size, newest: map[int]int{}} }

func (q *queue) add(sector int, b []byte) {
	q.newest[sector] = q.count()
	q.sectors = append(q.sectors, sector)
	q.bytes = append(q.bytes, b...)
}

func (q *queue) count() int { return len(q.sectors) }

func (q *queue) at(i int) (sector int, b []byte) {
	return q.sectors[i], piece(q.bytes, i, q.size)
}

// last tells what a sector will have when all is kept.
func (q *queue) last(sector int) ([]byte, bool) {
	i, is := q.newest[sector]
	if !is {
		return nil, false
	}
	_, b := q.at(i)
	return b, true
}

func (q *queue) empty() { *q = newQueue(q.size) }
