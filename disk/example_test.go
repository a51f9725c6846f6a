package disk_test

import (
	"bytes"
	"fmt"

	"teasel/disk"
)

// full is a sector of one letter.
func full(c byte) []byte { return bytes.Repeat([]byte{c}, 64) }

func ExampleDisk() {
	d, _ := disk.New(3, 64)
	d.Write(0, full('a'))
	fmt.Println(d.Sync())
	d.Write(0, full('b'))
	d.Write(1, full('c'))
	d.Write(2, full('d'))
	b, e := d.Read(0)
	fmt.Printf("%q %v %d\n", b[0], e, d.Pending())
	d.Cut(false, true)
	_, e = d.Read(0)
	fmt.Println(e, d.Off())
	d.On()
	for sector := range 3 {
		b, _ = d.Read(sector)
		fmt.Printf("%q\n", b[0])
	}
	// Output:
	// ok
	// 'b' ok 3
	// down true
	// 'a'
	// 'c'
	// '\x00'
}

func ExampleDisk_Arm() {
	d, _ := disk.New(2, 64)
	d.Arm(2, true)
	fmt.Println(d.Write(0, full('a')))
	fmt.Println(d.Write(1, full('b')))
	fmt.Println(d.Off(), d.Writes())
	d.On()
	b, _ := d.Read(0)
	fmt.Printf("%q\n", b[0])
	// Output:
	// ok
	// down
	// true 1
	// 'a'
}
