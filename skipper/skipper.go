// Package skipper: packed files that are read from the middle: see DOC.md.
package skipper

import (
	"iter"
	"strings"

	"skipper/api"
)

// magic is what every file begins with.
const magic = "SK1"

// Pack packs data (P2).
func Pack(data string, block int, every int) (string, error) {
	if len(data) > api.MaxData || block < 1 || block > api.MaxBlock || every < 1 || every > api.MaxEvery {
		return "", api.ErrSize
	}
	file := packBlocks(data, block, every)
	if len(file) > api.MaxFile {
		return "", api.ErrSize
	}
	return file, nil
}

// File is a packed file. Size and Blocks (P3) are those of its index.
type File struct {
	index
}

// Open opens a file (P3).
func Open(file string) (*File, error) {
	if len(file) > api.MaxFile {
		return nil, api.ErrSize
	}
	if !strings.HasPrefix(file, magic) {
		return nil, api.ErrMagic
	}
	blocks, err := readIndex(file)
	if err != nil {
		return nil, err
	}
	return &File{index: blocks}, nil
}

// ReadAt reads a part (P4).
func (f *File) ReadAt(from int, count int) (string, error) { return "", nil }

// Check tells which blocks cannot be read (P5).
func (f *File) Check() []int { return nil }

// Chunks yields the data of blocks (P6).
func (f *File) Chunks(from int) iter.Seq2[int, string] { return func(yield func(int, string) bool) {} }
