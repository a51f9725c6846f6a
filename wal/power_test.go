package wal_test

import (
	"bytes"
	"testing"

	"teasel/api"
	"teasel/codec"
	"teasel/disk"
	"teasel/draws"
	"teasel/wal"
)

// step is a call, and what it makes of what a log tells.
type step struct {
	call func(w *wal.Wal) error
	next func(m model) model
	sync bool
}

func puts(from int, l ...wal.Entry) step {
	return step{
		call: func(w *wal.Wal) error { return w.Append(from, l...) },
		next: func(m model) model { return m.put(from, l...) },
	}
}

func sets(h wal.Hard) step {
	return step{
		call: func(w *wal.Wal) error { return w.Set(h) },
		next: func(m model) model { return m.set(h) },
	}
}

func keeps(s wal.Snap) step {
	return step{
		call: func(w *wal.Wal) error { return w.Keep(s) },
		next: func(m model) model { return m.keep(s) },
	}
}

func syncs() step {
	return step{
		call: func(w *wal.Wal) error { return w.Sync() },
		next: func(m model) model { return m },
		sync: true,
	}
}

// life is a log, what it must tell, and what may be told of it when the power went.
type life struct {
	t   *testing.T
	d   *disk.Disk
	w   *wal.Wal
	now model
	may []model // from the last Sync on
}

func newLife(t *testing.T, sectors, size, at, n int) *life {
	d := newDisk(t, sectors, size)
	return &life{t: t, d: d, w: format(t, d, at, n), now: blank(), may: []model{blank()}}
}

// do tells whether the power stayed. A call that fails has no effect, not even on the disk.
func (x *life) do(s step) bool {
	x.t.Helper()
	next := s.next(x.now)
	err := s.call(x.w)
	if err != nil {
		if !x.d.Off() {
			x.t.Fatal(err)
		}
		wantTells(x.t, x.w, x.now)
		return false
	}
	x.now, x.may = next, append(x.may, next)
	if s.sync {
		x.may = []model{next}
	}
	wantTells(x.t, x.w, x.now)
	return true
}

// wake turns the power on, and opens the log: it must be one that may be told, and stay so.
func (x *life) wake(at, n int) {
	x.t.Helper()
	x.d.On()
	for range 2 {
		x.reopen(at, n)
		x.d.Cut()
		x.d.On()
	}
}

func (x *life) reopen(at, n int) {
	x.t.Helper()
	x.w = open(x.t, x.d, at, n)
	k := len(x.may) - 1
	for k >= 0 && !tells(x.w, x.may[k]) {
		k--
	}
	if k < 0 {
		first, l := x.w.Entries()
		x.t.Fatalf("%v, %v, %d, %v; want one of %v", x.w.Hard(), x.w.Snap(), first, l, x.may)
	}
	x.now, x.may = x.may[k], []model{x.may[k]}
}

// goOn holds that a log that came back is one as any other.
func (x *life) goOn(at, n int) {
	x.t.Helper()
	for range 2 {
		x.do(puts(x.now.past(), entry(1<<40, "on")))
		x.do(sets(wal.Hard{Term: 77, Vote: 7, Commit: 7}))
		x.do(syncs())
		x.d.Cut()
		x.wake(at, n)
		x.do(puts(x.now.past() - 1))
	}
}

// masks tells each choice of what of so many pending writes is kept, or, of too many, some.
func masks(pending int, s *draws.Source) [][]bool {
	var l [][]bool
	if pending <= 7 {
		for mask := range 1 << pending {
			l = append(l, keepBits(uint64(mask), pending))
		}
		return l
	}
	l = append(l, make([]bool, pending), keepBits(1<<63-1, pending))
	for i := range pending { // all but one, that one alone, those up to it, those from it on
		but, one, upTo, from := keepBits(1<<63-1, pending), make([]bool, pending), make([]bool, pending), make([]bool, pending)
		but[i], one[i] = false, true
		for k := range pending {
			upTo[k], from[k] = k <= i, k >= i
		}
		l = append(l, but, one, upTo, from)
	}
	for range 60 {
		l = append(l, keepBits(s.Next(), pending))
	}
	return l
}

func keepBits(mask uint64, pending int) []bool {
	keep := make([]bool, pending)
	for i := range keep {
		keep[i] = mask>>(i%64)&1 == 1
	}
	return keep
}

// rows are calls that go through all there is: small and long records, entries cut back, snapshots of either kind, halves that run full, with Syncs near and far.
func rows() map[string][]step {
	few, long := func(k int) wal.Entry { return wal.Entry{Term: 1 + k, Data: drawn(k)} }, drawn(120)
	var sets20, turns []step
	for i := range 20 {
		sets20 = append(sets20, sets(wal.Hard{Term: 1<<40 - i, Vote: i % 9, Commit: 1<<40 - i}))
	}
	for i := range 14 {
		turns = append(turns, puts(1, wal.Entry{Term: 5 + i, Data: drawn(60 + i)}))
		if i%5 == 4 {
			turns = append(turns, syncs())
		}
	}
	return map[string][]step{
		"mixed": {
			puts(1, few(3), few(0)), sets(wal.Hard{Term: 1}), puts(3, few(40)), syncs(), puts(2, few(50), few(9)), keeps(wal.Snap{Index: 1, Term: 4, Data: drawn(30)}),
			puts(4, few(20)), keeps(wal.Snap{Index: 2, Term: 51}), syncs(), syncs(), sets(wal.Hard{Term: 2, Vote: 2}), puts(3), puts(3, few(1), few(2), few(3)), keeps(wal.Snap{Index: 9, Term: 1, Data: drawn(70)}),
			puts(10, wal.Entry{Term: 1, Data: long}), puts(10), puts(10, wal.Entry{Term: 2, Data: long[1:]}), syncs(), puts(10, few(5)), sets(wal.Hard{Vote: -1}), keeps(wal.Snap{Index: 10, Term: 7}),
		},
		"unsynced": append(append([]step{puts(1, few(10), few(20), few(30))}, sets20...), keeps(wal.Snap{Index: 2, Term: 21})),
		"turns":    turns,
		"sets":     append(append(append([]step{syncs()}, sets20...), syncs()), sets20...),
	}
}

// TestP603EachWrite cuts the power at each write there is, whatever pending writes are kept.
func TestP603EachWrite(t *testing.T) {
	s := draws.New(6)
	for name, row := range rows() {
		for armed, more := 1, true; more; armed++ {
			pending := pendingAt(t, row, armed)
			for _, keep := range masks(pending, s) {
				x := newLife(t, at+n+4, size, at, n)
				x.d.Arm(armed, keep...)
				more = !runs(x, row)
				if !more {
					break // there are no more writes
				}
				x.wake(at, n)
				x.goOn(at, n)
				if t.Failed() {
					t.Fatalf("%s, write %d, %v", name, armed, keep)
				}
			}
		}
	}
}

// runs tells whether the power stayed to the end.
func runs(x *life, row []step) bool {
	for _, s := range row {
		if !x.do(s) {
			return false
		}
	}
	return true
}

// pendingAt tells how many writes are pending when the armed one comes.
func pendingAt(t *testing.T, row []step, armed int) int {
	x := newLife(t, at+n+4, size, at, n)
	settled := x.d.Writes()
	x.d.Arm(armed)
	for _, s := range row {
		if !x.do(s) {
			break
		}
		if s.sync {
			settled = x.d.Writes()
		}
	}
	return x.d.Writes() - settled
}

// TestP603EachCall cuts the power between calls, with the same choices.
func TestP603EachCall(t *testing.T) {
	s := draws.New(7)
	for _, row := range rows() {
		for k := range len(row) + 1 {
			whole := newLife(t, at+n+4, size, at, n)
			runs(whole, row[:k])
			for _, keep := range masks(whole.d.Pending(), s) {
				x := newLife(t, at+n+4, size, at, n)
				runs(x, row[:k])
				x.d.Cut(keep...)
				x.wake(at, n)
				x.goOn(at, n)
			}
		}
	}
}

// TestP603SameGoesOn: a log that is not opened anew, when the power went and came, is as it was; what lasts is one of what it told.
func TestP603SameGoesOn(t *testing.T) {
	s := draws.New(8)
	for _, row := range rows() {
		for armed := 1; armed < 60; armed += 1 + s.Below(3) {
			for range 12 {
				x := newLife(t, at+n+4, size, at, n)
				x.d.Arm(armed, keepBits(s.Next(), 64)...)
				for _, call := range row {
					if !x.do(call) {
						x.d.On()
						x.d.Arm(1+s.Below(12), keepBits(s.Next(), 64)...)
						for x.d.Off() || !x.do(call) {
							x.d.On()
						}
					}
				}
				x.d.Arm(1 << 40)
				x.d.Cut(keepBits(s.Next(), 64)...)
				x.wake(at, n)
				x.goOn(at, n)
			}
		}
	}
}

// TestP603Format: a log that is formatted in place of another one: when the power goes it is the one or the other.
func TestP603Format(t *testing.T) {
	s := draws.New(9)
	for _, row := range rows() {
		for k := range len(row) + 1 {
			for armed := 1; armed < 100; armed++ {
				x := newLife(t, at+n+4, size, at, n)
				runs(x, row[:k])
				x.d.Arm(armed, keepBits(s.Next(), 64)...)
				if _, err := wal.Format(x.d, at, n); err == nil {
					x.now, x.may = blank(), []model{blank()}
					x.d.Cut(keepBits(s.Next(), 64)...)
					x.wake(at, n)
					break
				} else {
					wantFailure(t, err, "format", api.ErrDown)
				}
				x.may = append(x.may, blank())
				x.wake(at, n)
				x.goOn(at, n)
			}
		}
	}
}

// TestP603Blank: where there was no log there is none, or the new one.
func TestP603Blank(t *testing.T) {
	for armed := 1; armed < 100; armed++ {
		for mask := range uint64(16) {
			d := newDisk(t, 40, size)
			d.Arm(armed, keepBits(mask, 4)...)
			if _, err := wal.Format(d, at, n); err == nil {
				return
			}
			d.On()
			w, err := wal.Open(d, at, n)
			if err != nil {
				wantFailure(t, err, "open", api.ErrLost)
				continue
			}
			wantTells(t, w, blank())
		}
	}
	t.Error("a log is never formatted")
}

// chance is a life with calls, cuts and bytes that are drawn.
type chance struct {
	*life
	s     *draws.Source
	at, n int
}

// bytes are, at times, some of the disk's own: such as a record, a sector that was.
func (c *chance) bytes(most int) []byte {
	k := c.s.Between(0, most)
	switch c.s.Below(4) {
	case 0:
		return bytes.Repeat([]byte{byte(c.s.Next())}, k)
	case 1:
		return make([]byte, k)
	}
	_, size := c.d.Shape()
	all := c.d.Bytes()
	from := c.s.Below(len(all) - most)
	if c.s.Below(2) == 0 {
		from = from / size * size
	}
	return all[from : from+k]
}

func (c *chance) step() step {
	m := c.now
	switch c.s.Below(8) {
	case 0, 1, 2:
		k := m.past()
		if c.s.Below(3) == 0 {
			k -= c.s.Below(len(m.list) + 1)
		}
		var l []wal.Entry
		for range c.s.Below(4) {
			l = append(l, wal.Entry{Term: c.s.Between(1, 3), Data: c.bytes(70)})
		}
		return puts(k, l...)
	case 3, 4:
		return sets(wal.Hard{Term: c.s.Below(1 << 40), Vote: c.s.Between(-1, 8), Commit: c.s.Below(99)})
	case 5:
		x := wal.Snap{Index: m.snap.Index + c.s.Between(1, len(m.list)+2), Term: c.s.Between(1, 3), Data: c.bytes(90)}
		if k := x.Index - m.snap.Index - 1; k < len(m.list) && c.s.Below(3) > 0 {
			x.Term = m.list[k].Term
		}
		return keeps(x)
	case 6:
		return step{call: func(w *wal.Wal) error {
			_, err := wal.Open(c.d, c.at, c.n) // another look at it: it changes nothing
			return err
		}, next: func(m model) model { return m }}
	}
	return syncs()
}

func (c *chance) keep() []bool { return keepBits(c.s.Next(), 64) }

// act is one call, and at times a cut ahead of it or in it.
func (c *chance) act() {
	switch c.s.Below(30) {
	case 0:
		c.d.Cut(c.keep()...)
		c.wake(c.at, c.n)
	case 1:
		c.d.Cut(c.keep()...)
		c.d.On() // unseen
	case 2, 3, 4, 5:
		c.d.Arm(c.s.Between(1, 12), c.keep()...)
	case 6:
		c.reopen(c.at, c.n) // with writes pending, or lost unseen
	}
	s := c.step()
	if c.tooMuch(s) {
		return
	}
	if c.do(s) {
		return
	}
	if c.s.Below(2) == 0 {
		c.wake(c.at, c.n)
	} else {
		c.d.On()
	}
}

// tooMuch tells whether a step has no room. Then it changes nothing.
func (c *chance) tooMuch(s step) bool {
	m := s.next(c.now)
	sum := len(m.snap.Data)
	for _, e := range m.list {
		sum += 20 + len(e.Data)
	}
	_, size := c.d.Shape()
	return sum > c.n*size/4-100
}

// TestP603Chance is all of it at once.
func TestP603Chance(t *testing.T) {
	for seed := range uint64(150) {
		s := draws.New(seed)
		at, n := s.Below(5), s.Between(16, 40)
		c := &chance{newLife(t, at+n+s.Below(5), s.Between(64, 200), at, n), s, at, n}
		for i := range 250 {
			c.act()
			if t.Failed() {
				t.Fatalf("seed %d, %d", seed, i)
			}
		}
		c.d.Arm(1 << 40)
		c.d.On()
		c.do(syncs())
		c.d.Cut()
		c.wake(at, n)
		_, size := c.d.Shape()
		wantRoomOf(t, c.w, c.now, n, size)
		c.goOn(at, n)
	}
}

// blind are bytes that a CRC-32C does not see: any bytes, and the same with these laid upon some of them (each bit that is set here turned over), have one sum.
var blind = []byte{0xF1, 0x76, 0xEC, 0x05, 0x01}

func turned(b []byte, at int) []byte {
	b = bytes.Clone(b)
	for i, c := range blind {
		b[at+i] ^= c
	}
	return b
}

// TestP603NoSumDecides: an entry is written where another one was, of as many bytes, with the same sum, whichever sectors of the two are taken.
func TestP603NoSumDecides(t *testing.T) {
	old := drawn(150)
	if b := turned(old, 70); bytes.Equal(b, old) || codec.Sum(b) != codec.Sum(old) {
		t.Fatal("a sum sees it")
	}
	young := old
	for i := 0; i+len(blind) <= len(old); i += len(blind) {
		young = turned(young, i)
	}
	x := newLife(t, at+n+4, size, at, n)
	for lead := range 40 { // so that the sectors' edges are at all places of the entries
		for _, reopened := range []bool{false, true} {
			for mask := range uint64(1 << 7) {
				x.do(puts(1))
				x.do(puts(1, wal.Entry{Term: 1, Data: old[:lead]}))
				x.do(puts(2, wal.Entry{Term: 1, Data: old}))
				if lead%2 == 0 {
					x.do(syncs())
				}
				if reopened {
					x.d.Cut(true, true, true, true, true, true)
					x.wake(at, n)
				}
				if x.now.past() != 3 {
					x.d.Cut()
					x.wake(at, n)
					continue
				}
				x.do(puts(2, wal.Entry{Term: 1, Data: young}))
				x.d.Cut(keepBits(mask, 7)...)
				x.wake(at, n)
			}
		}
	}
}

// TestP603TornTwice: what the power left of a record is not taken for the end of the one that stands in its place.
func TestP603TornTwice(t *testing.T) {
	s := draws.New(3)
	old, young := drawn(150), turned(turned(drawn(150), 40), 110)
	for lead := range 40 {
		for range 60 {
			x := newLife(t, at+n+4, size, at, n)
			x.do(puts(1, wal.Entry{Term: 1, Data: old[:lead]}))
			x.do(syncs())
			for _, data := range [][]byte{old, young, old, young} {
				x.d.Arm(s.Between(1, 9), keepBits(s.Next(), 10)...)
				if !x.do(puts(2, wal.Entry{Term: 1, Data: data})) && s.Below(2) == 0 {
					x.wake(at, n)
				}
				x.d.On()
			}
			x.d.Cut(keepBits(s.Next(), 40)...)
			x.wake(at, n)
		}
	}
}
