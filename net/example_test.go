package net_test

import (
	"fmt"

	"teasel/net"
)

func ExampleNet() {
	n, _ := net.New(3)
	n.Send(0, 1, []byte("a"))
	n.Send(1, 2, []byte("b"))
	n.Again(0)
	for _, p := range n.Wait() {
		fmt.Printf("%d: %d to %d: %s\n", p.N, p.From, p.To, p.Data)
	}
	p, e := n.Take(2)
	fmt.Printf("%s %v\n", p.Data, e)
	_, e = n.Take(2)
	fmt.Println(e, n.Clear(1))
	// Output:
	// 0: 0 to 1: a
	// 0: 0 to 1: a
	// 1: 1 to 2: b
	// b ok
	// none 2
}

func ExampleNet_Cut() {
	n, _ := net.New(3)
	n.Send(2, 0, []byte("lost"))
	fmt.Println(n.Cut(0, 2), n.Open(2, 0), n.Open(0, 1))
	fmt.Println(n.Send(0, 2, []byte("lost")), len(n.Wait()))
	n.Heal()
	n.Send(0, 2, []byte("c"))
	p, _ := n.Take(0)
	fmt.Println(p.N, n.Open(2, 0))
	// Output:
	// ok false true
	// ok 0
	// 2 true
}
