package wal_test

import (
	"errors"
	"fmt"

	"teasel/api"
	"teasel/disk"
	"teasel/wal"
)

func ExampleWal() {
	d, _ := disk.New(64, 256)
	w, _ := wal.Format(d, 0, 64)
	w.Append(1, entry(1, "a"), entry(1, "b"), entry(2, "c"))
	w.Set(wal.Hard{Term: 2, Vote: 0, Commit: 1})
	w.Keep(wal.Snap{Index: 1, Term: 1, Data: []byte("all up to a")})
	fmt.Println(w.Sync())
	w.Append(3) // what stands from 3 on is no more; not synced
	d.Cut()     // and lost
	fmt.Println(w.Set(wal.Hard{}))
	d.On()
	w, err := wal.Open(d, 0, 64)
	first, l := w.Entries()
	for i, e := range l {
		fmt.Printf("%d: %d %s\n", first+i, e.Term, e.Data)
	}
	fmt.Printf("%v %v %d %s\n", err, w.Hard(), w.Snap().Index, w.Snap().Data)
	// Output:
	// <nil>
	// set down
	// 2: 1 b
	// 3: 2 c
	// <nil> {2 0 1} 1 all up to a
}

func ExampleFailure() {
	d, _ := disk.New(64, 256)
	_, err := wal.Open(d, 0, 64)
	var f *wal.Failure
	fmt.Println(err, errors.Is(err, api.ErrLost), errors.As(err, &f) && f.Step == "open")
	w, _ := wal.Format(d, 0, 64)
	fmt.Println(w.Append(1, wal.Entry{Term: 1, Data: make([]byte, w.Room()+1)}))
	// Output:
	// open lost true true
	// append full
}
