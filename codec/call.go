package codec

import "teasel/api"

func Call(c api.Call) []byte {
	w := NewWriter()
	w.ints(c.Kind, c.Flow, c.List, c.N)
	w.ints(c.Token.Flow, c.Token.Run, c.Token.Event, c.Token.Turn)
	w.Bytes(c.Data)
	w.ints(len(c.L))
	for _, d := range c.L {
		w.ints(d.Kind, d.Id, d.List, d.N)
		w.Bytes(d.Data)
	}
	return w.Done()
}

func ReadCall(b []byte) (api.Call, error) {
	r := &Reader{b: b} // no copy: it ends with this call
	c := readCall(r)
	if err := r.End(); err != nil {
		return api.Call{}, err
	}
	return c, nil
}

func readCall(r *Reader) api.Call {
	var c api.Call
	c.Kind = r.whole("kind")
	c.Flow = r.whole("flow")
	c.List = r.whole("list")
	c.N = r.whole("n")
	c.Token.Flow = r.whole("token")
	c.Token.Run = r.whole("token")
	c.Token.Event = r.whole("token")
	c.Token.Turn = r.whole("token")
	c.Data = r.Bytes("data", api.MaxData)
	for range r.Between("count", 0, api.MaxList) {
		c.L = append(c.L, readDecision(r))
	}
	return c
}

func readDecision(r *Reader) api.Decision {
	var d api.Decision
	d.Kind = r.whole("decision")
	d.Id = r.whole("decision")
	d.List = r.whole("decision")
	d.N = r.whole("decision")
	d.Data = r.Bytes("decision", api.MaxData)
	return d
}
