package codec_test

import (
	"errors"
	"fmt"

	"teasel/api"
	"teasel/codec"
)

func Example() {
	b := codec.NewWriter().Int(-2).Bytes([]byte("ab")).Done()
	r := codec.NewReader(b)
	fmt.Println(r.Int("depth"), string(r.Bytes("name", 16)), r.End())

	r = codec.NewReader(b[:3])
	r.Int("depth")
	r.Bytes("name", 16)
	err := r.End()
	fmt.Println(err, errors.Is(err, api.ErrShort))
	// Output:
	// -2 ab <nil>
	// short in name at 1 true
}

func ExampleReadFrame() {
	c := api.Call{Kind: api.CSignal, Flow: 7, Data: []byte("go on")}
	body, n, err := codec.ReadFrame(codec.Frame(codec.Call(c)))
	fmt.Println(n, err)
	c, err = codec.ReadCall(body)
	fmt.Println(c.Flow, string(c.Data), err)
	// Output:
	// 27 <nil>
	// 7 go on <nil>
}
