package skipper

import (
	"skipper/header"
	"skipper/tokens"
)

// packBlocks makes the file of data, however long it gets.
func packBlocks(data string, block, every int) string {
	file := []byte(magic)
	reach := 0
	for from := 0; from < len(data); from += block {
		fresh := from/block%every == 0
		if fresh {
			reach = from
		}
		to := min(from+block, len(data))
		packed := tokens.Pack(data, reach, from, to)
		file = header.Of(fresh, to-from, packed).AppendTo(file)
		file = append(file, packed...)
	}
	return string(file)
}
