// Package header has the header of a block: how it is written, read and summed.
package header

import "skipper/api"

// Length is how many bytes a header has.
const Length = 9

// Header stands ahead of the packed bytes of a block.
type Header struct {
	Fresh  bool
	Size   int // of the block, unpacked
	Packed int // how many packed bytes follow
	Sum    uint32
}

// Of makes the header of a block of that size from its packed bytes.
func Of(fresh bool, size int, packed []byte) Header {
	return Header{Fresh: fresh, Size: size, Packed: len(packed), Sum: Sum(packed)}
}

// AppendTo writes the header behind what the file has so far.
func (h Header) AppendTo(file []byte) []byte {
	mark := byte(0)
	if h.Fresh {
		mark = 1
	}
	file = append(file, mark)
	file = appendNumber(file, uint32(h.Size), 2)
	file = appendNumber(file, uint32(h.Packed), 2)
	return appendNumber(file, h.Sum, 4)
}

// Read reads the header with which rest begins. It answers only for what one
// header shows by itself: where it may stand is for the index to tell.
func Read(rest string) (Header, error) {
	if len(rest) < Length {
		return Header{}, api.ErrEnd
	}
	mark := rest[0]
	size := int(number(rest[1:3]))
	if mark > 1 || size < 1 || size > api.MaxBlock {
		return Header{}, api.ErrHeader
	}
	return Header{
		Fresh:  mark == 1,
		Size:   size,
		Packed: int(number(rest[3:5])),
		Sum:    number(rest[5:9]),
	}, nil
}

// appendNumber writes the lowest count bytes of n, the lowest first.
func appendNumber(file []byte, n uint32, count int) []byte {
	for range count {
		file = append(file, byte(n))
		n >>= 8
	}
	return file
}

// number reads bytes of which the lowest comes first.
func number(text string) uint32 {
	n := uint32(0)
	for i := range len(text) {
		n |= uint32(text[i]) << (8 * i)
	}
	return n
}
