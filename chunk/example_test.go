package chunk_test

import (
	"errors"
	"fmt"

	"teasel/api"
	"teasel/chunk"
)

func ExampleBuilder() {
	l, _ := chunk.Cut(7, []byte("all of a snapshot"), 8)
	b := chunk.NewBuilder()
	for _, p := range l {
		p, _ = chunk.Decode(chunk.Encode(p)) // as it comes over a net
		whole, err := b.Add(p)
		id, at := b.Next()
		fmt.Println(id, at, whole, err)
	}
	data, err := b.Done()
	fmt.Printf("%s %v\n", data, err)
	// Output:
	// 7 8 false <nil>
	// 7 16 false <nil>
	// 7 17 true <nil>
	// all of a snapshot <nil>
}

func ExampleBroken() {
	l, _ := chunk.Cut(7, []byte("all of a snapshot"), 8)
	_, err := chunk.NewBuilder().Add(l[1])
	var broken *chunk.Broken
	fmt.Println(err, errors.Is(err, api.ErrNot), errors.As(err, &broken) && broken.Id == 7)
	_, err = chunk.Decode(chunk.Encode(l[1])[:9])
	fmt.Println(err)
	// Output:
	// chunk 7: not true true
	// chunk 0: short in body at 8
}
