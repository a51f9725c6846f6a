package draws_test

import (
	"fmt"

	"teasel/draws"
)

func ExampleSource() {
	s := draws.New(7)
	twin := s.Twin()
	fmt.Println(s.Below(10), s.Between(150, 300), s.Count())
	fmt.Println(twin.Below(10), twin.Between(150, 300), twin.Count())
	fmt.Println(s.Between(9, 3), s.Count())
	// Output:
	// 7 166 2
	// 7 166 2
	// 9 2
}

func ExampleClock() {
	c := draws.NewClock()
	fmt.Println(c.Set(3, 5), c.Set(1, 5), c.Set(2, 4), c.Set(8, 0))
	fmt.Println(c.Next())
	fmt.Println(c.Tick(5))
	fmt.Println(c.Due())
	fmt.Println(c.Next())
	// Output:
	// true true true false
	// 4 true
	// 5
	// [2 1 3]
	// 0 false
}
