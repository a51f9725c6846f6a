package net

import "bytes"

// parcel is a packet that waits. What hands it on may do so many times, and alike for all that wait once more: each time the bytes are new ones.
type parcel struct {
	from, to, number int
	hand             func() Packet
}

func wrap(from, to, number int, data []byte) parcel {
	own := bytes.Clone(data)
	return parcel{from, to, number, func() Packet {
		return Packet{From: from, To: to, N: number, Data: bytes.Clone(own)}
	}}
}
