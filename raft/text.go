package raft

import (
	"math"

	"teasel/api"
	"teasel/codec"
	"teasel/wal"
)

// Text lays all fields of a message, whatever its kind.
func Text(m Message) []byte {
	w := codec.NewWriter()
	ints := func(l ...int) {
		for _, v := range l {
			w.Int(int64(v))
		}
	}
	ok := 0
	if m.Ok {
		ok = 1
	}
	ints(m.Kind, m.From, m.To, m.Term, m.Index, m.Log, m.Commit, ok, m.Hint, m.HintTerm)
	ints(m.Snap.Index, m.Snap.Term)
	w.Bytes(m.Snap.Data)
	ints(len(m.Entries))
	for _, e := range m.Entries {
		ints(e.Term)
		w.Bytes(e.Data)
	}
	return w.Done()
}

// Read reads what Text laid.
func Read(b []byte) (Message, error) {
	r := page{codec.NewReader(b), len(b)}
	m := r.message()
	if err := r.End(); err != nil {
		return Message{}, err
	}
	return m, nil
}

// page is bytes of a message that are read. No count or length in it can be more than it has bytes.
type page struct {
	*codec.Reader
	most int
}

func (p page) message() Message {
	var m Message
	m.Kind = p.Between("kind", MVote, MBegins)
	m.From = p.Between("from", 0, api.MaxNodes-1)
	m.To = p.Between("to", 0, api.MaxNodes-1)
	m.Term = p.int("term")
	m.Index = p.int("index")
	m.Log = p.int("log")
	m.Commit = p.int("commit")
	m.Ok = p.Between("ok", 0, 1) == 1
	m.Hint = p.int("hint")
	m.HintTerm = p.int("hintterm")
	m.Snap = wal.Snap{Index: p.int("snap"), Term: p.int("snap"), Data: p.bytes("snap")}
	for range p.Between("count", 0, p.most) {
		m.Entries = append(m.Entries, wal.Entry{Term: p.int("entry"), Data: p.bytes("entry")})
	}
	return m
}

func (p page) int(what string) int { return p.Between(what, math.MinInt, math.MaxInt) }

func (p page) bytes(what string) []byte {
	b := p.Bytes(what, p.most)
	if len(b) == 0 {
		return nil
	}
	return b
}
