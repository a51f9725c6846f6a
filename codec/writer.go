package codec

import "bytes"

// Writer lays a record's bytes.
type Writer struct {
	b []byte
}

func NewWriter() *Writer { return &Writer{} }

func (w *Writer) Int(v int64) *Writer {
	u := fold(v)
	for u >= 0x80 {
		w.b = append(w.b, byte(u)|0x80)
		u >>= 7
	}
	w.b = append(w.b, byte(u))
	return w
}

func (w *Writer) Bytes(b []byte) *Writer {
	w.Int(int64(len(b)))
	w.b = append(w.b, b...)
	return w
}

// Done copies, for the writer may go on behind it.
func (w *Writer) Done() []byte { return bytes.Clone(w.b) }

func (w *Writer) ints(l ...int) {
	for _, v := range l {
		w.Int(int64(v))
	}
}

// fold lays numbers below 0 between the others, so that small ones of either sign are short.
func fold(v int64) uint64 { return uint64(v)<<1 ^ uint64(v>>63) }

func unfold(u uint64) int64 { return int64(u>>1) ^ -int64(u&1) }
