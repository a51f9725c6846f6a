package chunk_test

import (
	"math"
	"testing"

	"teasel/api"
	"teasel/chunk"
	"teasel/codec"
)

func TestP1002Nothing(t *testing.T) {
	b := chunk.NewBuilder()
	for range 2 {
		wantNext(t, b, -1, 0)
		wantNotDone(t, b, -1, api.ErrNot)
		b.Drop()
	}
	b = new(chunk.Builder)
	wantNext(t, b, -1, 0)
	wantAdd(t, b, piece(0, "ab", 0, 2), true)
	wantDone(t, b, "ab")
}

func TestP1002InOrder(t *testing.T) {
	data := drawn(1000)
	for _, size := range []int{1, 3, 10, 999, 1000, 1001} {
		b := chunk.NewBuilder()
		l := mustCut(t, 4, data, size)
		for i, p := range l {
			wantAdd(t, b, p, i == len(l)-1)
			wantNext(t, b, 4, p.At+len(p.Data))
		}
		wantDone(t, b, string(data))
		wantNotDone(t, b, -1, api.ErrNot)
	}
}

func TestP1002NoData(t *testing.T) {
	b := chunk.NewBuilder()
	wantAdd(t, b, chunk.Piece{Id: 0}, true)
	wantNext(t, b, 0, 0)
	wantAdd(t, b, chunk.Piece{Id: 0}, true)
	wantDone(t, b, "")
	wantAdd(t, b, chunk.Piece{Id: 9, Sum: 1}, true)
	wantNotDone(t, b, 9, api.ErrSum)
	wantNext(t, b, -1, 0)
}

// TestP1002Most: all bounds of what may be are met at once, by pieces greater than a cut makes.
func TestP1002Most(t *testing.T) {
	text := string(drawn(1 << 20))
	b := chunk.NewBuilder()
	wantAdd(t, b, piece(math.MaxInt, text, 0, 1<<20-1), false)
	wantAdd(t, b, piece(math.MaxInt, text, 1<<20-1, 1<<20), true)
	wantAdd(t, b, piece(math.MaxInt, text, 0, 1<<20), true)
	wantDone(t, b, text)
	long := piece(1, text+"x", 0, 9)
	wantRefused(t, b, long, api.ErrArg)
	long.Data = []byte(text + "x")
	wantRefused(t, b, long, api.ErrArg)
}

// wrongPieces may not be, whatever is built.
func wrongPieces() []chunk.Piece {
	right := piece(6, "abcdef", 2, 4)
	var l []chunk.Piece
	wrong := func(turn func(p *chunk.Piece)) {
		p := right
		turn(&p)
		l = append(l, p)
	}
	for _, v := range belowNone() {
		wrong(func(p *chunk.Piece) { p.Id = v })
		wrong(func(p *chunk.Piece) { p.At = v })
		wrong(func(p *chunk.Piece) { p.Total = v })
		wrong(func(p *chunk.Piece) { p.At, p.Total, p.Data = v, 0, nil })
		wrong(func(p *chunk.Piece) { p.At, p.Total, p.Data = 0, v, nil })
		wrong(func(p *chunk.Piece) { p.Id, p.At, p.Total = v, v, v })
	}
	for _, v := range append(farAbove(), 7, 6, 5) {
		wrong(func(p *chunk.Piece) { p.At = v })
		wrong(func(p *chunk.Piece) { p.At, p.Total, p.Data = v, 0, nil })
	}
	for _, v := range append(farAbove(), 1<<20+1) {
		wrong(func(p *chunk.Piece) { p.Total = v })
		wrong(func(p *chunk.Piece) { p.At, p.Total = v, v })
		wrong(func(p *chunk.Piece) { p.At, p.Total = v-2, v })
	}
	for _, v := range []int{0, 1, 2, 3} {
		wrong(func(p *chunk.Piece) { p.Total = v })
	}
	wrong(func(p *chunk.Piece) { p.Data = nil })
	wrong(func(p *chunk.Piece) { p.Data = []byte{} })
	wrong(func(p *chunk.Piece) { p.At, p.Data = 6, nil })
	wrong(func(p *chunk.Piece) { p.At, p.Data = 0, make([]byte, 7) })
	return l
}

// TestP1002Wrong: ErrArg is ahead of all other errors, and what is built stays.
func TestP1002Wrong(t *testing.T) {
	for _, p := range wrongPieces() {
		b := chunk.NewBuilder()
		wantRefused(t, b, p, api.ErrArg)
		for _, id := range []int{0, 6, math.MaxInt} {
			b.Drop()
			wantAdd(t, b, piece(id, "xyz", 0, 2), false)
			wantRefused(t, b, p, api.ErrArg)
			wantAdd(t, b, piece(id, "xyz", 2, 3), true)
			wantDone(t, b, "xyz")
		}
	}
}

func TestP1002Gap(t *testing.T) {
	b := chunk.NewBuilder()
	for at := 1; at < 6; at++ {
		wantRefused(t, b, piece(6, "abcdef", at, 6), api.ErrNot)
	}
	wantNotDone(t, b, -1, api.ErrNot)
	wantAdd(t, b, piece(6, "abcdef", 0, 2), false)
	for at := 3; at < 6; at++ {
		wantRefused(t, b, piece(6, "abcdef", at, at+1), api.ErrNot)
	}
	wantAdd(t, b, piece(6, "abcdef", 2, 3), false)
	wantNotDone(t, b, 6, api.ErrNot)
	wantNext(t, b, 6, 3)
	wantAdd(t, b, piece(6, "abcdef", 3, 6), true)
	wantDone(t, b, "abcdef")
}

// TestP1002Passed: what is there already is passed over, even where it is not the same now.
func TestP1002Passed(t *testing.T) {
	const text = "abcdef"
	for have := 1; have <= len(text); have++ {
		for at := 0; at <= have && at < len(text); at++ {
			for past := at + 1; past <= len(text); past++ {
				b := chunk.NewBuilder()
				wantAdd(t, b, piece(0, text, 0, have), have == len(text))
				p := piece(0, text, at, past)
				for i := range min(have, past) - at {
					p.Data[i] = '?'
				}
				there := max(have, past)
				wantAdd(t, b, p, there == len(text))
				wantNext(t, b, 0, there)
				wantAdd(t, b, piece(0, text, 0, len(text)), true)
				wantDone(t, b, text)
			}
		}
	}
}

func TestP1002Lesser(t *testing.T) {
	b := chunk.NewBuilder()
	wantAdd(t, b, piece(5, "abc", 0, 1), false)
	for id := range 5 {
		wantRefused(t, b, piece(id, "abc", 0, 3), api.ErrNot)
		wantRefused(t, b, piece(id, "abc", 1, 3), api.ErrNot)
		wantRefused(t, b, chunk.Piece{Id: id}, api.ErrNot)
	}
	wantAdd(t, b, piece(5, "abc", 1, 3), true)
	wantRefused(t, b, piece(4, "abc", 0, 3), api.ErrNot)
	wantDone(t, b, "abc")
	wantAdd(t, b, piece(4, "def", 0, 3), true)
	wantDone(t, b, "def")
}

func TestP1002Greater(t *testing.T) {
	b := chunk.NewBuilder()
	wantAdd(t, b, piece(5, "abc", 0, 2), false)
	for _, at := range []int{1, 2} {
		wantRefused(t, b, piece(6, "xyz", at, 3), api.ErrNot)
	}
	wantAdd(t, b, piece(5, "abc", 2, 3), true)
	wantRefused(t, b, piece(math.MaxInt, "xyz", 2, 3), api.ErrNot)
	wantAdd(t, b, piece(6, "xyz", 0, 1), false)
	wantNext(t, b, 6, 1)
	wantRefused(t, b, piece(5, "abc", 0, 3), api.ErrNot)
	wantAdd(t, b, piece(6, "xyz", 1, 3), true)
	wantAdd(t, b, piece(8, "", 0, 0), true)
	wantNext(t, b, 8, 0)
	wantAdd(t, b, piece(9, "abc", 0, 3), true)
	wantDone(t, b, "abc")
}

// TestP1002Another: one Id is one snapshot, also where At alone would be refused.
func TestP1002Another(t *testing.T) {
	b := chunk.NewBuilder()
	wantAdd(t, b, piece(5, "abcd", 0, 2), false)
	for _, p := range []chunk.Piece{
		piece(5, "abc", 0, 3), piece(5, "abcde", 0, 3), piece(5, "abcx", 2, 4), piece(5, "abcx", 3, 4),
		{Id: 5}, {Id: 5, Sum: piece(5, "abcd", 0, 1).Sum},
		{Id: 5, Total: 5, Sum: piece(5, "abcd", 0, 1).Sum, Data: []byte("ab")},
	} {
		wantRefused(t, b, p, api.ErrForm)
	}
	wantAdd(t, b, piece(5, "abcd", 2, 4), true)
	wantRefused(t, b, piece(5, "abcx", 0, 4), api.ErrForm)
	wantDone(t, b, "abcd")
	wantAdd(t, b, piece(5, "abcx", 0, 4), true)
	wantDone(t, b, "abcx")
}

// TestP1002Sum: what has not its sum is dropped, and may come again.
func TestP1002Sum(t *testing.T) {
	b := chunk.NewBuilder()
	p := piece(7, "abc", 0, 3)
	p.Data[1] = 'x'
	wantAdd(t, b, p, true)
	wantNotDone(t, b, 7, api.ErrSum)
	wantNext(t, b, -1, 0)
	wantNotDone(t, b, -1, api.ErrNot)
	wantAdd(t, b, piece(7, "abc", 0, 3), true)
	wantDone(t, b, "abc")
	wantAdd(t, b, piece(3, "abc", 0, 3), true)
	wantDone(t, b, "abc")
}

func TestP1002Drop(t *testing.T) {
	b := chunk.NewBuilder()
	for _, past := range []int{1, 3} {
		wantAdd(t, b, piece(7, "abc", 0, past), past == 3)
		b.Drop()
		wantNext(t, b, -1, 0)
		wantNotDone(t, b, -1, api.ErrNot)
		wantRefused(t, b, piece(7, "abc", 1, 3), api.ErrNot)
	}
	wantAdd(t, b, piece(2, "xyz", 0, 3), true)
	wantDone(t, b, "xyz")
}

// slow is a builder that has the bytes that are there one by one.
type slow struct {
	id, total int
	sum       uint32
	there     map[int]byte
}

func none() slow { return slow{id: -1} }

func (s *slow) add(p chunk.Piece) (bool, api.Errno) {
	next := slow{p.Id, p.Total, p.Sum, map[int]byte{}}
	switch {
	case p.Id < 0, p.At < 0, p.Total < 0, p.Total > 1<<20, p.At+len(p.Data) > p.Total, len(p.Data) == 0 && p.Total != 0:
		return false, api.ErrArg
	case s.id > p.Id:
		return false, api.ErrNot
	case s.id == p.Id && (s.total != p.Total || s.sum != p.Sum):
		return false, api.ErrForm
	case s.id == p.Id:
		next = *s
	}
	if p.At > len(next.there) {
		return false, api.ErrNot
	}
	for i, c := range p.Data {
		if _, is := next.there[p.At+i]; !is {
			next.there[p.At+i] = c
		}
	}
	*s = next
	return len(s.there) == s.total, api.OK
}

func (s *slow) done() (string, api.Errno) {
	if s.id < 0 || len(s.there) != s.total {
		return "", api.ErrNot
	}
	var b []byte
	for i := range s.total {
		b = append(b, s.there[i])
	}
	sum := s.sum
	*s = none()
	if codec.Sum(b) != sum {
		return "", api.ErrSum
	}
	return string(b), api.OK
}

// dice draw small numbers from a seed.
type dice struct{ v uint64 }

func (d *dice) below(n int) int {
	d.v = d.v*6364136223846793005 + 1442695040888963407
	return int(d.v>>33) % n
}

// pieceOf is mostly a right one of few texts, so that builders come far with them.
func (d *dice) pieceOf() chunk.Piece {
	texts := []string{"", "a", "bcde", "fghi", "jklmnopq"}
	id := d.below(5)
	text := texts[(id+d.below(12)/11)%5]
	at := d.below(len(text) + 1)
	p := piece(id, text, at, at+d.below(len(text)-at+1))
	switch d.below(30) {
	case 0:
		p.Id -= 3
	case 1:
		p.At -= 2
	case 2:
		p.Total += d.below(3) - 1
	case 3:
		p.Sum++
	case 4, 5:
		if len(p.Data) > 0 {
			p.Data[0]++
		}
	case 6:
		p.At++
	}
	return p
}

// TestP1002Slow holds builders against a slow one, over long rows of calls.
func TestP1002Slow(t *testing.T) {
	d := &dice{11}
	told := map[api.Errno]int{}
	b, s := chunk.NewBuilder(), none()
	for i := range 200000 {
		wantNext(t, b, s.id, len(s.there))
		switch d.below(20) {
		case 0:
			b.Drop()
			s = none()
		case 1, 2:
			id := s.id
			text, e := s.done()
			told[e]++
			if e == api.OK {
				wantDone(t, b, text)
			} else {
				wantNotDone(t, b, id, e)
			}
		default:
			p := d.pieceOf()
			whole, e := s.add(p)
			told[e]++
			if e == api.OK {
				wantAdd(t, b, p, whole)
			} else {
				wantRefused(t, b, p, e)
			}
		}
		if t.Failed() {
			t.Fatalf("call %d", i)
		}
	}
	for _, e := range []api.Errno{api.OK, api.ErrArg, api.ErrNot, api.ErrForm, api.ErrSum} {
		if told[e] < 100 {
			t.Errorf("%v was told %d times", e, told[e])
		}
	}
}
