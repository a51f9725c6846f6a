package ids_test

import (
	"fmt"

	"teasel/api"
	"teasel/ids"
)

func Example() {
	fmt.Println(ids.Shard(7, 4), ids.ListShard(5, 2, 4))

	v := ids.Token(api.Token{Flow: 7, Run: 1, Event: 3, Turn: 2})
	fmt.Printf("%016x\n", v)
	fmt.Println(ids.Of(v))
	fmt.Println(ids.Of(0))

	fmt.Println(ids.Block(3, 10))
	fmt.Println(ids.Owner(39, 10))
	// Output:
	// 0 3
	// 0000700010003002
	// {7 1 3 2} ok
	// {0 0 0 0} form
	// 30 40 ok
	// 3 ok
}
