package codec

import (
	"bytes"

	"teasel/api"
)

const (
	wordSize = 4
	headSize = 2 * wordSize
	maxFrame = 1 << 20 // bytes within a frame that is read
)

// halves tells what four bits add to a CRC-32C. A table of whole bytes would have 256
// words, which is more than a table at package level may have.
var halves = [16]uint32{
	0x00000000, 0x105EC76F, 0x20BD8EDE, 0x30E349B1,
	0x417B1DBC, 0x5125DAD3, 0x61C69362, 0x7198540D,
	0x82F63B78, 0x92A8FC17, 0xA24BB5A6, 0xB21572C9,
	0xC38D26C4, 0xD3D3E1AB, 0xE330A81A, 0xF36E6F75,
}

func Sum(b []byte) uint32 {
	s := ^uint32(0)
	for _, c := range b {
		s ^= uint32(c)
		s = s>>4 ^ halves[s&15]
		s = s>>4 ^ halves[s&15]
	}
	return ^s
}

func Frame(b []byte) []byte {
	f := make([]byte, 0, headSize+len(b)+wordSize)
	f = addWord(f, uint32(len(b)))
	f = addWord(f, Sum(f))
	f = append(f, b...)
	return addWord(f, Sum(b))
}

func ReadFrame(b []byte) ([]byte, int, error) {
	if len(b) < headSize {
		return nil, 0, &Fault{Err: api.ErrShort, At: 0, What: "head"}
	}
	if Sum(b[:wordSize]) != word(b[wordSize:]) {
		return nil, 0, &Fault{Err: api.ErrSum, At: 0, What: "head"}
	}
	if word(b) > maxFrame {
		return nil, 0, &Fault{Err: api.ErrLong, At: 0, What: "length"}
	}
	past := headSize + int(word(b))
	if len(b) < past+wordSize {
		return nil, 0, &Fault{Err: api.ErrShort, At: headSize, What: "body"}
	}
	body := b[headSize:past]
	if Sum(body) != word(b[past:]) {
		return nil, 0, &Fault{Err: api.ErrSum, At: headSize, What: "body"}
	}
	return bytes.Clone(body), past + wordSize, nil
}

// addWord lays the lowest byte first.
func addWord(b []byte, v uint32) []byte {
	return append(b, byte(v), byte(v>>8), byte(v>>16), byte(v>>24))
}

// word tells what addWord laid at b's front.
func word(b []byte) uint32 {
	return uint32(b[0]) | uint32(b[1])<<8 | uint32(b[2])<<16 | uint32(b[3])<<24
}
