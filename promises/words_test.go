// Package promises tests what the document promises, by the calls alone.
// This file says the document's words once more, as plainly as can be, so that
// the program is held against something that is not its own.
package promises

import (
	"encoding/binary"
	"hash/adler32"
	"strings"
	"testing"

	"skipper/api"
	"skipper/skipper"
)

// block writes a block: its header with the right sum, and its packed bytes.
func block(fresh byte, size int, packed string) string {
	h := []byte{fresh}
	h = binary.LittleEndian.AppendUint16(h, uint16(size))
	h = binary.LittleEndian.AppendUint16(h, uint16(len(packed)))
	h = binary.LittleEndian.AppendUint32(h, adler32.Checksum([]byte(packed)))
	return string(h) + packed
}

// distinct makes count bytes that are all different, from first on.
func distinct(first, count int) string {
	var b strings.Builder
	for i := range count {
		b.WriteByte(byte(first + i))
	}
	return b.String()
}

// noise makes count bytes below kinds; the same ones for the same seed.
func noise(seed uint32, kinds uint32, count int) string {
	b := make([]byte, count)
	for i := range b {
		seed = seed*1664525 + 1013904223
		b[i] = byte((seed >> 16) % kinds)
	}
	return string(b)
}

// wantPacked packs by the document's words.
func wantPacked(data string, size, every int) string {
	file, reach := "SK1", 0
	for n := 0; n*size < len(data); n++ {
		from, to := n*size, min(n*size+size, len(data))
		fresh := byte(0)
		if n%every == 0 {
			fresh, reach = 1, from
		}
		file += block(fresh, to-from, wantTokens(data[:to], reach, from))
	}
	return file
}

// wantTokens packs what stands from the place from on, to the end of data.
func wantTokens(data string, reach, from int) string {
	packed, run := "", ""
	flush := func() {
		if run != "" {
			packed += string([]byte{byte(len(run) - 1)}) + run
		}
		run = ""
	}
	for p := from; p < len(data); {
		best, at := 0, 0
		for q := reach; q < p; q++ {
			n := 0
			for n < 131 && p+n < len(data) && data[q+n] == data[p+n] {
				n++
			}
			if n >= best {
				best, at = n, q
			}
		}
		if best >= 4 {
			flush()
			packed += string([]byte{byte(128 + best - 4), byte((p - at) % 256), byte((p - at) / 256)})
			p += best
			continue
		}
		if run += data[p : p+1]; len(run) == 128 {
			flush()
		}
		p++
	}
	flush()
	return packed
}

// wantOpened reads headers by the document's words.
func wantOpened(file string) ([]api.Block, int, error) {
	if len(file) > 65536 {
		return nil, 0, api.ErrSize
	}
	if len(file) < 3 || file[:3] != "SK1" {
		return nil, 0, api.ErrMagic
	}
	var list []api.Block
	data, at := 0, 3
	for at != len(file) {
		if len(file)-at < 9 {
			return nil, 0, api.ErrEnd
		}
		h := []byte(file[at : at+9])
		size := int(binary.LittleEndian.Uint16(h[1:]))
		packed := int(binary.LittleEndian.Uint16(h[3:]))
		switch {
		case h[0] != 0 && h[0] != 1, size == 0, size > 1024, at == 3 && h[0] == 0, data+size > 20000:
			return nil, 0, api.ErrHeader
		case len(file)-at-9 < packed:
			return nil, 0, api.ErrEnd
		}
		list = append(list, api.Block{From: data, Size: size, At: at, Fresh: h[0] == 1})
		data, at = data+size, at+9+packed
	}
	return list, data, nil
}

func pack(t *testing.T, data string, size, every int) string {
	t.Helper()
	file, err := skipper.Pack(data, size, every)
	if err != nil {
		t.Fatalf("P2: Pack of %d bytes %.20q, %d, %d: %v", len(data), data, size, every, err)
	}
	return file
}

func open(t *testing.T, file string) *skipper.File {
	t.Helper()
	f, err := skipper.Open(file)
	if err != nil || f == nil {
		t.Fatalf("P3: Open of %d bytes %.40q = a file: %v, %v", len(file), file, f != nil, err)
	}
	return f
}
