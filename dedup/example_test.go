package dedup_test

import (
	"fmt"

	"teasel/dedup"
)

func ExampleTable() {
	t, e := dedup.NewTable(2)
	fmt.Println(e, t.Put(7, 1, []byte("one")), t.Put(7, 2, []byte("two")))
	kind, answer := t.Look(7, 1)
	fmt.Println(kind == dedup.Old, string(answer))

	t.Put(7, 3, []byte("three")) // 1 is too old now
	kind, _ = t.Look(7, 1)
	fmt.Println(kind == dedup.Expired, t.Top(7), t.Len())

	t, err := dedup.Decode(t.Encode())
	t.Each(func(client, seq int, answer []byte) bool {
		fmt.Println(client, seq, string(answer))
		return true
	})
	fmt.Println(t.Clients(), err)
	// Output:
	// ok 0 0
	// true one
	// true 3 2
	// 7 2 two
	// 7 3 three
	// [7] <nil>
}

func ExampleDecode() {
	_, err := dedup.Decode([]byte{6, 2, 0, 4, 2, 2, 0}) // Top is 2, but only 1 has an answer
	fmt.Println(err)
	// Output:
	// form in table at 5
}
