package event

import (
	"bytes"
	"slices"

	"teasel/api"
	"teasel/codec"
)

// Encode lays events as they are, Right or not.
func Encode(l ...api.Event) []byte {
	w := codec.NewWriter().Int(int64(len(l)))
	for _, e := range l {
		for _, v := range [...]int{e.Kind, e.At, e.Ref, e.Id, e.List, e.N} {
			w.Int(int64(v))
		}
		w.Bytes(e.Data)
	}
	return w.Done()
}

// Decode reads what Encode laid.
func Decode(b []byte) ([]api.Event, error) {
	r := codec.NewReader(b)
	l := read(r)
	if err := r.End(); err != nil {
		return nil, err
	}
	return l, nil
}

// read leaves off with the first event that can't be read, lest it go on for as many as the bytes only claim.
func read(r *codec.Reader) []api.Event {
	var l []api.Event
	for range r.Between("count", 0, api.MaxEvents) {
		e := readEvent(r)
		if e.Kind == 0 {
			return nil
		}
		l = append(l, e)
	}
	return l
}

func readEvent(r *codec.Reader) api.Event {
	var e api.Event
	e.Kind = r.Between("event", started, terminated)
	for _, v := range [...]*int{&e.At, &e.Ref, &e.Id, &e.List, &e.N} {
		*v = r.Between("event", 0, most)
	}
	e.Data = r.Bytes("data", api.MaxData)
	return e
}

// Prefix tells whether b begins with a.
func Prefix(a, b []api.Event) bool {
	return len(a) <= len(b) && slices.EqualFunc(a, b[:len(a)], same)
}

func same(a, b api.Event) bool {
	return a.Kind == b.Kind &&
		a.At == b.At &&
		a.Ref == b.Ref &&
		a.Id == b.Id &&
		a.List == b.List &&
		a.N == b.N &&
		bytes.Equal(a.Data, b.Data)
}
