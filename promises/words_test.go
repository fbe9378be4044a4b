// Package promises tests what the document promises, by the calls alone.
// This file says the document's words once more, as plainly as can be, so that
// the program is held against something that is not its own.
package promises

import (
	"encoding/binary"
	"fmt"
	"hash/adler32"
	"strings"
	"testing"

	"skipper/api"
	"skipper/skipper"
)

// block writes a block: its header with the right sum, and its packed bytes.
func block(fresh byte, size int, packed string) string {
	h := []byte{fresh}
	h = binary.LittleEndian.AppendUint16(h, uint16(size))
	h = binary.LittleEndian.AppendUint16(h, uint16(len(packed)))
	h = binary.LittleEndian.AppendUint32(h, adler32.Checksum([]byte(packed)))
	return string(h) + packed
}

// distinct makes count bytes that are all different, from first on.
func distinct(first, count int) string {
	var b strings.Builder
	for i := range count {
		b.WriteByte(byte(first + i))
	}
	return b.String()
}

// noise makes count bytes below kinds; the same ones for the same seed.
func noise(seed uint32, kinds uint32, count int) string {
	b := make([]byte, count)
	for i := range b {
		seed = seed*1664525 + 1013904223
		b[i] = byte((seed >> 16) % kinds)
	}
	return string(b)
}

// wantPacked packs by the document's words.
func wantPacked(data string, size, every int) string {
	file, reach := "SK1", 0
	for n := 0; n*size < len(data); n++ {
		from, to := n*size, min(n*size+size, len(data))
		fresh := byte(0)
		if n%every == 0 {
			fresh, reach = 1, from
		}
		file += block(fresh, to-from, wantTokens(data[:to], reach, from))
	}
	return file
}

// wantTokens packs what stands from the place from on, to the end of data.
func wantTokens(data string, reach, from int) string {
	packed, run := "", ""
	flush := func() {
		if run != "" {
			packed += string([]byte{byte(len(run) - 1)}) + run
		}
		run = ""
	}
	for p := from; p < len(data); {
		best, at := 0, 0
		for q := reach; q < p; q++ {
			n := 0
			for n < 131 && p+n < len(data) && data[q+n] == data[p+n] {
				n++
			}
			if n >= best {
				best, at = n, q
			}
		}
		if best >= 4 {
			flush()
			packed += string([]byte{byte(128 + best - 4), byte((p - at) % 256), byte((p - at) / 256)})
			p += best
			continue
		}
		if run += data[p : p+1]; len(run) == 128 {
			flush()
		}
		p++
	}
	flush()
	return packed
}

// wantOpened reads headers by the document's words.
func wantOpened(file string) ([]api.Block, int, error) {
	if len(file) > 65536 {
		return nil, 0, api.ErrSize
	}
	if len(file) < 3 || file[:3] != "SK1" {
		return nil, 0, api.ErrMagic
	}
	var list []api.Block
	data, at := 0, 3
	for at != len(file) {
		if len(file)-at < 9 {
			return nil, 0, api.ErrEnd
		}
		h := []byte(file[at : at+9])
		size := int(binary.LittleEndian.Uint16(h[1:]))
		packed := int(binary.LittleEndian.Uint16(h[3:]))
		switch {
		case h[0] != 0 && h[0] != 1, size == 0, size > 1024, at == 3 && h[0] == 0, data+size > 20000:
			return nil, 0, api.ErrHeader
		case len(file)-at-9 < packed:
			return nil, 0, api.ErrEnd
		}
		list = append(list, api.Block{From: data, Size: size, At: at, Fresh: h[0] == 1})
		data, at = data+size, at+9+packed
	}
	return list, data, nil
}

// told is a block as the document tells it: its data, or why it is bad, or that
// it follows one that is.
type told struct {
	api.Block
	data    string
	why     error
	follows bool
}

// wantBlocks goes through the blocks of a file that can be opened.
func wantBlocks(file string) []told {
	list, _, _ := wantOpened(file)
	var all []told
	ahead, lost := "", false // from the last fresh block on
	for i, b := range list {
		if b.Fresh {
			ahead, lost = "", false
		}
		end := len(file)
		if i+1 < len(list) {
			end = list[i+1].At
		}
		packed := file[b.At+9 : end]
		one := told{Block: b, follows: lost}
		if binary.LittleEndian.Uint32([]byte(file[b.At+5:])) != adler32.Checksum([]byte(packed)) {
			one.why = api.ErrSum
		} else if data, good := wantUnpacked(ahead, packed, b.Size); !good {
			one.why = api.ErrToken
		} else {
			one.data = data
		}
		ahead += one.data
		lost = lost || one.why != nil
		all = append(all, one)
	}
	return all
}

// wantUnpacked unpacks a block by the document's words, behind what is unpacked
// from the last fresh block on.
func wantUnpacked(ahead, packed string, size int) (string, bool) {
	out := []byte(ahead)
	for packed != "" {
		c := int(packed[0])
		if c < 128 {
			if len(packed) < c+2 {
				return "", false
			}
			out = append(out, packed[1:c+2]...)
			packed = packed[c+2:]
			continue
		}
		if len(packed) < 3 {
			return "", false
		}
		d := int(packed[1]) + 256*int(packed[2])
		if d == 0 || d > len(out) {
			return "", false
		}
		for range c - 124 {
			out = append(out, out[len(out)-d])
		}
		packed = packed[3:]
	}
	data := string(out[len(ahead):])
	return data, len(data) == size
}

// wantRead reads count bytes, which must be there and more than none: the
// bytes, or the number of the bad block and why it is.
func wantRead(all []told, from, count int) (string, int, error) {
	first, last, data := 0, 0, ""
	for i, b := range all {
		if b.From <= from && b.Fresh {
			first = i
		}
		if b.From < from+count {
			last = i
		}
	}
	for i := first; i <= last; i++ {
		if all[i].why != nil {
			return "", i, all[i].why
		}
		data += all[i].data
	}
	start := from - all[first].From
	return data[start : start+count], 0, nil
}

func wantCheck(all []told) []int {
	var list []int
	for i, b := range all {
		if b.why != nil || b.follows {
			list = append(list, i)
		}
	}
	return list
}

// chunk is what Chunks yields at once: the number of a block, and its data.
type chunk struct {
	number int
	data   string
}

// String keeps what a failing test prints short.
func (c chunk) String() string {
	return fmt.Sprintf("%d:%.40q", c.number, c.data)
}

// wantChunks tells what is yielded from a byte on, which may be none of the data.
func wantChunks(all []told, from int) []chunk {
	var list []chunk
	for i, b := range all {
		if from < 0 || from >= b.From+b.Size {
			continue
		}
		if b.why != nil || b.follows {
			break
		}
		list = append(list, chunk{i, b.data[max(0, from-b.From):]})
	}
	return list
}

func pack(t *testing.T, data string, size, every int) string {
	t.Helper()
	file, err := skipper.Pack(data, size, every)
	if err != nil {
		t.Fatalf("P2: Pack of %d bytes %.20q, %d, %d: %v", len(data), data, size, every, err)
	}
	return file
}

func open(t *testing.T, file string) *skipper.File {
	t.Helper()
	f, err := skipper.Open(file)
	if err != nil || f == nil {
		t.Fatalf("P3: Open of %d bytes %.40q = a file: %v, %v", len(file), file, f != nil, err)
	}
	return f
}
