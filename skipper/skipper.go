// Package skipper: packed files that are read from the middle: see DOC.md.
package skipper

import (
	"iter"
	"strings"

	"skipper/api"
)

// magic is what every file begins with.
const magic = "SK1"

// Pack packs data (P2).
func Pack(data string, block int, every int) (string, error) {
	if len(data) > api.MaxData || block < 1 || block > api.MaxBlock || every < 1 || every > api.MaxEvery {
		return "", api.ErrSize
	}
	file := packBlocks(data, block, every)
	if len(file) > api.MaxFile {
		return "", api.ErrSize
	}
	return file, nil
}

// File is a packed file. Size and Blocks (P3) are those of its index.
type File struct {
	index
	text string
}

// Open opens a file (P3).
func Open(file string) (*File, error) {
	if len(file) > api.MaxFile {
		return nil, api.ErrSize
	}
	if !strings.HasPrefix(file, magic) {
		return nil, api.ErrMagic
	}
	blocks, err := readIndex(file)
	if err != nil {
		return nil, err
	}
	// A copy, because what is handed in is not kept.
	return &File{index: blocks, text: strings.Clone(file)}, nil
}

// ReadAt reads a part (P4).
func (f *File) ReadAt(from int, count int) (string, error) {
	// Not by from + count, which may be too great for an int.
	if from < 0 || count < 0 || count > f.Size()-from {
		return "", api.ErrRange
	}
	if count == 0 {
		return "", nil
	}
	first := f.lastFresh(f.blockOf(from))
	data, err := f.unpack(first, f.blockOf(from+count-1))
	if err != nil {
		return "", err
	}
	start := from - f.entries[first].From
	return string(data[start : start+count]), nil
}

// Check tells which blocks cannot be read (P5).
func (f *File) Check() []int {
	var list []int
	for first := 0; first < len(f.entries); {
		next := f.nextFresh(first)
		_, err := f.unpack(first, next-1)
		if n, bad := damagedBlock(err); bad {
			for ; n < next; n++ {
				list = append(list, n)
			}
		}
		first = next
	}
	return list
}

// Chunks yields the data of blocks (P6).
func (f *File) Chunks(from int) iter.Seq2[int, string] {
	return func(yield func(int, string) bool) {
		if from < 0 || from >= f.Size() {
			return
		}
		start := f.blockOf(from)
		first := f.lastFresh(start)
		base := f.entries[first].From
		// The error is left aside: damage ends the chunks, they do not tell it.
		_ = f.unpackEach(first, len(f.entries)-1, func(n int, data []byte) bool {
			if n < start {
				return true // unpacked only because copies may reach back to it
			}
			return yield(n, string(data[max(from, f.entries[n].From)-base:]))
		})
	}
}
