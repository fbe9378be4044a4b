package skipper

import (
	"sort"

	"skipper/api"
	"skipper/header"
)

// index tells where the blocks of a file are.
type index struct {
	entries []entry
	size    int
}

// entry is a block as its header tells it.
type entry struct {
	api.Block
	packed int // how many packed bytes it has
	sum    uint32
}

// Size tells how many bytes the data has (P3).
func (x *index) Size() int { return x.size }

// Blocks tells the blocks (P3).
func (x *index) Blocks() []api.Block {
	list := make([]api.Block, len(x.entries))
	for n, e := range x.entries {
		list[n] = e.Block
	}
	return list
}

// readIndex goes through the headers of a file, without a look at what is packed.
func readIndex(file string) (index, error) {
	var x index
	for at := len(magic); at < len(file); {
		h, err := header.Read(file[at:])
		if err != nil {
			return index{}, err
		}
		if !x.mayFollow(h) {
			return index{}, api.ErrHeader
		}
		x.add(h, at)
		at += header.Length + h.Packed
		if at > len(file) {
			return index{}, api.ErrEnd
		}
	}
	return x, nil
}

// mayFollow tells if a block with this header may stand behind those that are there.
func (x *index) mayFollow(h header.Header) bool {
	first := len(x.entries) == 0
	return (h.Fresh || !first) && x.size+h.Size <= api.MaxData
}

func (x *index) add(h header.Header, at int) {
	b := api.Block{From: x.size, Size: h.Size, At: at, Fresh: h.Fresh}
	x.entries = append(x.entries, entry{Block: b, packed: h.Packed, sum: h.Sum})
	x.size += h.Size
}

// blockOf tells the number of the block in which that byte of the data is.
func (x *index) blockOf(place int) int {
	behind := sort.Search(len(x.entries), func(n int) bool { return x.entries[n].From > place })
	return behind - 1
}

// lastFresh tells the last fresh block that is at or ahead of block n.
func (x *index) lastFresh(n int) int {
	for !x.entries[n].Fresh {
		n--
	}
	return n
}

// nextFresh tells the first fresh block behind block n, or how many blocks
// there are, if none is.
func (x *index) nextFresh(n int) int {
	n++
	for n < len(x.entries) && !x.entries[n].Fresh {
		n++
	}
	return n
}
