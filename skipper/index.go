package skipper

import (
	"skipper/api"
	"skipper/header"
)

// index tells where the blocks of a file are.
type index struct {
	blocks []api.Block
	size   int
}

// Size tells how many bytes the data has (P3).
func (x *index) Size() int { return x.size }

// Blocks tells the blocks (P3).
func (x *index) Blocks() []api.Block {
	list := make([]api.Block, len(x.blocks))
	copy(list, x.blocks)
	return list
}

// readIndex goes through the headers of a file, without a look at what is packed.
func readIndex(file string) (index, error) {
	var x index
	for at := len(magic); at < len(file); {
		h, err := header.Read(file[at:])
		if err != nil {
			return index{}, err
		}
		if !x.mayFollow(h) {
			return index{}, api.ErrHeader
		}
		x.add(h, at)
		at += header.Length + h.Packed
		if at > len(file) {
			return index{}, api.ErrEnd
		}
	}
	return x, nil
}

// mayFollow tells if a block with this header may stand behind those that are there.
func (x *index) mayFollow(h header.Header) bool {
	first := len(x.blocks) == 0
	return (h.Fresh || !first) && x.size+h.Size <= api.MaxData
}

func (x *index) add(h header.Header, at int) {
	x.blocks = append(x.blocks, api.Block{From: x.size, Size: h.Size, At: at, Fresh: h.Fresh})
	x.size += h.Size
}
