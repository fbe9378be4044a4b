package skipper

import (
	"skipper/api"
	"skipper/header"
	"skipper/tokens"
)

// unpack unpacks the blocks from first, which must be a fresh one, to last.
// The first bad one is told as damage.
func (f *File) unpack(first, last int) ([]byte, error) {
	var all []byte
	err := f.unpackEach(first, last, func(_ int, data []byte) bool {
		all = data
		return true
	})
	if err != nil {
		return nil, err
	}
	return all, nil
}

// unpackEach unpacks the blocks from first, which must be a fresh one, to last,
// and yields behind each its number and all that is unpacked so far, as long as
// yield asks for more. The first bad one is told as damage.
func (f *File) unpackEach(first, last int, yield func(n int, data []byte) bool) error {
	var data []byte
	reach := 0
	for n := first; n <= last; n++ {
		if f.entries[n].Fresh {
			reach = len(data)
		}
		longer, err := f.unpackBlock(data, reach, n)
		if err != nil {
			return damaged(n, err)
		}
		data = longer
		if !yield(n, data) {
			break
		}
	}
	return nil
}

// unpackBlock unpacks block n behind data, in which the last fresh block
// begins at the place reach.
func (f *File) unpackBlock(data []byte, reach, n int) ([]byte, error) {
	e := f.entries[n]
	packed := f.text[e.At+header.Length:][:e.packed]
	if header.Sum([]byte(packed)) != e.sum {
		return nil, api.ErrSum
	}
	return tokens.Unpack(data, reach, packed, e.Size)
}
