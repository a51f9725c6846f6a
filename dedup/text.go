package dedup

import (
	"teasel/api"
	"teasel/codec"
)

const (
	word       = "table" // what a Fault says of all that cannot be read
	mostAnswer = 1 << 25 // bytes of an answer that is read
)

// Encode lays a table, client by client.
func (t *Table) Encode() []byte {
	w := codec.NewWriter()
	ints := func(l ...int) {
		for _, v := range l {
			w.Int(int64(v))
		}
	}
	ints(t.window, len(t.rows))
	t.walk(func(e entry) bool {
		if row := t.rows[e.client]; e.seq == row[0] {
			ints(e.client, t.Top(e.client), len(row))
		}
		ints(e.seq)
		w.Bytes(e.answer)
		return true
	})
	return w.Done()
}

// Decode reads what Encode laid.
func Decode(b []byte) (*Table, error) {
	r := codec.NewReader(b)
	t := newTable(r.Between(word, 1, mostWindow))
	t.read(r)
	if err := r.End(); err != nil {
		return nil, err
	}
	return t, nil
}

// read leaves off with the first client that can't be read, lest it go on for as many as the bytes only claim.
func (t *Table) read(r *codec.Reader) {
	least := 0
	for range r.Between(word, 0, api.MaxFlow+1) {
		client := r.Between(word, least, api.MaxFlow)
		if !t.readRow(r, client) {
			return
		}
		least = client + 1
	}
}

// readRow tells whether all of a client could be read: then no number that it reads is 0.
func (t *Table) readRow(r *codec.Reader, client int) bool {
	top := r.Between(word, 1, mostSeq)
	count := r.Between(word, 1, t.window)
	least := max(1, top-t.window+1)
	for behind := count - 1; behind >= 0; behind-- {
		if behind == 0 {
			least = top // the last one is Top itself
		}
		seq := r.Between(word, least, top-behind)
		answer := r.Bytes(word, mostAnswer)
		if seq == 0 {
			return false
		}
		t.keep(key{client, seq}, answer)
		least = seq + 1
	}
	return count > 0
}
