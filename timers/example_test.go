package timers_test

import (
	"fmt"

	"teasel/timers"
)

func ExampleHeap() {
	h := timers.New()
	late := timers.Item{At: 9, Flow: 3, Run: 1, Ref: 4, Kind: 5}
	fmt.Println(h.Add(late), h.Add(late), h.Add(timers.Item{At: 7, Flow: 3, Run: 1, Ref: 6}), h.Add(timers.Item{At: 7, Flow: 2, Run: 1}))
	fmt.Println(h.Next())
	fmt.Println(h.Take(6))
	fmt.Println(h.Take(7))
	fmt.Println(h.Len(), h.List())
	fmt.Println(h.Remove(late), h.Remove(late), h.Drop(3, 1), h.Len())
	// Output:
	// true false true true
	// {7 2 1 0 0 0} true
	// {0 0 0 0 0 0} false
	// {7 2 1 0 0 0} true
	// 2 [{7 3 1 6 0 0} {9 3 1 4 0 5}]
	// true false 1 0
}

func ExampleLeast() {
	shorter := func(a, b string) bool { return len(a) < len(b) }
	fmt.Println(timers.Least([]string{"three", "one", "two"}, shorter))
	_, is := timers.Least(nil, shorter)
	fmt.Println(is)
	// Output:
	// one true
	// false
}

func ExampleBlock() {
	fmt.Println(timers.Block(3, 5, 4, 7), timers.Block(3, 5), timers.Block(3))
	// Output:
	// 5 3 3
}
