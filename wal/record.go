package wal

import (
	"errors"

	"teasel/api"
	"teasel/codec"
)

// Kinds of records.
const (
	ofAll  = 1 // a state, and which sectors it was written for; the first of an edition, and no other one
	ofPut  = 2 // entries
	ofSet  = 3 // a hard state
	ofKeep = 4 // a snapshot
)

const (
	// entryHead is how many bytes an entry takes in a record beside its Data, at most: 6 of a Term, 3 of a count.
	entryHead = 6 + 3
	// stateHead is how many a state takes beside its entries and its snapshot's Data, at most: 4 of a count, 1 of a kind, 6 of an area, 13 of a hard state, 16 of a snapshot, 10 of entries.
	stateHead = 4 + 1 + 6 + 13 + 16 + 10
)

// writer is one that begins a record.
func writer(kind int) *codec.Writer { return codec.NewWriter().Int(int64(kind)) }

// sealed has a count ahead of a record: so it is told where it ends.
func sealed(w *codec.Writer) []byte { return codec.NewWriter().Bytes(w.Done()).Done() }

func (a area) recordOfAll(s state) []byte {
	w := writer(ofAll)
	w.Int(int64(a.at)).Int(int64(a.n))
	layHard(w, s.hard)
	laySnap(w, s.snap)
	layEntries(w, s.first(), s.list)
	return sealed(w)
}

func recordOfPut(from int, l []Entry) []byte {
	w := writer(ofPut)
	layEntries(w, from, l)
	return sealed(w)
}

func recordOfSet(h Hard) []byte {
	w := writer(ofSet)
	layHard(w, h)
	return sealed(w)
}

func recordOfKeep(s Snap) []byte {
	w := writer(ofKeep)
	laySnap(w, s)
	return sealed(w)
}

func layHard(w *codec.Writer, h Hard) {
	w.Int(int64(h.Term)).Int(int64(h.Vote)).Int(int64(h.Commit))
}

func laySnap(w *codec.Writer, s Snap) {
	w.Int(int64(s.Index)).Int(int64(s.Term)).Bytes(s.Data)
}

func layEntries(w *codec.Writer, from int, l []Entry) {
	w.Int(int64(from)).Int(int64(len(l)))
	for _, e := range l {
		w.Int(int64(e.Term)).Bytes(e.Data)
	}
}

// replay tells the state to which an edition's records lead. The last one may not be whole: then it is none.
func (a area) replay(text []byte) (state, error) {
	var s state
	var err error
	r, records := codec.NewReader(text), 0
	for ; r.End() != nil; records++ {
		record := r.Bytes("record", a.capacity())
		if errors.Is(r.End(), api.ErrShort) {
			break
		}
		if s, err = a.redo(s, record, records == 0); err != nil {
			return state{}, err
		}
	}
	if records == 0 {
		return state{}, api.ErrLost
	}
	return s, nil
}

// redo does a record's change.
func (a area) redo(s state, record []byte, first bool) (state, error) {
	least, most := ofPut, ofKeep
	if first {
		least, most = ofAll, ofAll
	}
	var err error
	r := codec.NewReader(record)
	switch r.Between("kind", least, most) {
	case ofAll:
		if s, err = a.readBase(r); err != nil {
			return state{}, err
		}
		fallthrough
	case ofPut:
		from, l := readEntries(r, len(record))
		s, err = s.put(from, l)
	case ofSet:
		s, err = s.set(readHard(r))
	case ofKeep:
		s, err = s.keep(readSnap(r, len(record)))
	}
	if err := r.End(); err != nil {
		return state{}, err
	}
	return s, err
}

// readBase reads a state without its entries. One that was written for other sectors is none.
func (a area) readBase(r *codec.Reader) (state, error) {
	r.Between("at", a.at, a.at)
	r.Between("n", a.n, a.n)
	s, err := a.blank().set(readHard(r))
	snap := readSnap(r, a.most())
	if err != nil || snap.Index == 0 {
		return s, err
	}
	return s.keep(snap)
}

func readHard(r *codec.Reader) Hard {
	term := r.Between("term", 0, mostNumber)
	vote := r.Between("vote", -1, api.MaxNodes-1)
	return Hard{Term: term, Vote: vote, Commit: r.Between("commit", 0, mostNumber)}
}

func readSnap(r *codec.Reader, most int) Snap {
	index := r.Between("index", 0, mostNumber)
	term := r.Between("term", 0, mostNumber)
	return Snap{Index: index, Term: term, Data: r.Bytes("data", most)}
}

func readEntries(r *codec.Reader, most int) (from int, l []Entry) {
	from = r.Between("from", 1, 2*mostNumber)
	for range r.Between("count", 0, most) {
		term := r.Between("term", 1, mostNumber)
		l = append(l, Entry{Term: term, Data: r.Bytes("data", mostData)})
	}
	return from, l
}
