package rlog_test

import (
	"fmt"

	"teasel/rlog"
	"teasel/wal"
)

func ExampleLog() {
	e := func(term int, data string) wal.Entry { return wal.Entry{Term: term, Data: []byte(data)} }
	g, _ := rlog.New(0, 0)
	fmt.Println(g.Add(e(1, "a"), e(1, "b"), e(1, "c")))
	from, more, err := g.Merge(1, e(1, "b"), e(2, "d"), e(2, "e"))
	fmt.Println(from, len(more), err) // "b" is there already; "c" is not what follows it
	for i, e := range g.Get(2, 9) {
		fmt.Printf("%d: %d %s\n", 2+i, e.Term, e.Data)
	}
	fmt.Println(g.Compact(2), g.First(), g.Match(2, 1))
	// Output:
	// 3
	// 3 2 ok
	// 2: 1 b
	// 3: 2 d
	// 4: 2 e
	// ok 3 true
}

func ExampleLog_Hint() {
	g, _ := rlog.New(0, 0, wal.Entry{Term: 1}, wal.Entry{Term: 3}, wal.Entry{Term: 3})
	fmt.Println(g.Hint(3)) // all of term 3 may be wrong: from 2 on
	fmt.Println(g.Hint(7)) // it ends at 3
	// Output:
	// 3 2
	// 0 4
}
