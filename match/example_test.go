package match_test

import (
	"fmt"

	"teasel/match"
)

func ExampleLists() {
	m, e := match.New[string](3)
	fmt.Println(e, m.Push(5, "a"), m.Push(5, "b"), m.Push(5, "c"), m.Push(2, "d"))
	fmt.Println(m.Push(5, "e"), m.Full(5), m.Len(2), m.Names())
	fmt.Println(m.Pop(5))
	fmt.Println(m.Keep(5, func(task string) bool { return task != "b" }))
	fmt.Println(m.Peek(5))
	fmt.Println(m.Clear(5), m.Names())
	// Output:
	// ok ok ok ok ok
	// full true 1 [2 5]
	// a true
	// 1
	// c true
	// 1 [2]
}

func ExampleLists_All() {
	m, _ := match.New[string](3)
	m.Push(5, "a")
	m.Push(2, "b")
	m.Push(5, "c")
	all := m.All()
	m.Clear(5) // all goes over what there was, all the same
	for list, task := range all {
		fmt.Println(list, task)
	}
	// Output:
	// 2 b
	// 5 a
	// 5 c
}
