package raft_test

import (
	"fmt"

	"teasel/quorum"
	"teasel/raft"
	"teasel/wal"
)

// Example has three members elect one that leads, which has an entry applied everywhere. What is to be kept goes to nowhere here.
func Example() {
	m, _ := quorum.Of([]int{0, 1, 2}, nil)
	var l []*raft.Raft
	for k := range 3 {
		r, _ := raft.New(raft.Options{Id: k, Members: m, Lo: 10, Hi: 20, Beat: 3, Batch: 16, Seed: uint64(k)}, wal.Hard{Vote: -1}, wal.Snap{}, 1)
		l = append(l, r)
	}
	goOn := func(ticks int) {
		for range ticks {
			for k, r := range l {
				r.Tick(1)
				for r.Wants() {
					x := r.Ready()
					for i, e := range x.Applied {
						fmt.Printf("%d applies %d: %q\n", k, x.First+i, e.Data)
					}
					for _, y := range x.Messages {
						l[y.To].Step(y)
					}
				}
			}
		}
	}
	goOn(100)
	lead := l[l[0].Leads()]
	fmt.Println(lead.Role() == raft.Leader, lead.Term(), lead.Commit())
	at, e := lead.Propose([]byte("hello"))
	fmt.Println(at, e)
	goOn(10)
	// Unordered output:
	// 0 applies 1: ""
	// 1 applies 1: ""
	// 2 applies 1: ""
	// true 1 1
	// 2 ok
	// 0 applies 2: "hello"
	// 1 applies 2: "hello"
	// 2 applies 2: "hello"
}

func ExampleConfig() {
	m, _ := quorum.Of([]int{4}, nil)
	r, _ := raft.New(raft.Options{Id: 4, Members: m, Lo: 2, Hi: 2, Beat: 1, Batch: 1}, wal.Hard{Vote: -1}, wal.Snap{}, 1)
	r.Tick(2)
	at, e := r.Change(7, quorum.Learner)
	fmt.Println(at, e)
	for _, x := range r.Ready().Entries {
		fmt.Println(raft.Config(x.Data))
	}
	// Output:
	// 2 ok
	// [0 0 0 0 0 0 0 0 0] false
	// [0 0 0 0 1 0 0 2 0] true
}
