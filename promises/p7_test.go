package promises

import (
	"encoding/binary"
	"slices"
	"strings"
	"testing"
)

// What was packed is read, in parts and block by block.
func TestPackedIsRead(t *testing.T) {
	for i, kinds := range []uint32{1, 2, 4, 30, 256} {
		for _, length := range []int{0, 1, 3, 100, 1023, 1024, 1025, 5000, 20000} {
			data := noise(uint32(i), kinds, length)
			for _, cut := range [][2]int{{4, 1}, {5, 100}, {100, 1}, {333, 3}, {1024, 2}, {1024, 100}} {
				if length == 20000 && cut[0] < 100 {
					continue // the file would be too long
				}
				f := open(t, pack(t, data, cut[0], cut[1]))
				if f.Size() != length {
					t.Errorf("P7: %d bytes packed, Size %d", length, f.Size())
				}
				tryRead(t, f, 0, length, data)
				tryRead(t, f, length/3, length/2, data[length/3:][:length/2])
				got := ""
				for _, c := range taken(f.Chunks(length/2), -1) {
					got += c.data
				}
				if got != data[length/2:] {
					t.Errorf("P7: %d bytes in blocks of %d: Chunks(%d) gives %d bytes", length, cut[0], length/2, len(got))
				}
			}
		}
	}
}

// changed are packed bytes with one byte turned, cut or put in, and with more
// cut off or put behind.
func changed(packed string) []string {
	list := []string{"", packed + packed, packed + "\x00", packed + "\x80\x01\x00"}
	for at := range len(packed) {
		list = append(list, turned(packed, at, 1), turned(packed, at, 128), packed[:at]+packed[at+1:], packed[:at]+"\x00"+packed[at:], packed[:at]+"\xff"+packed[at:], packed[at:])
	}
	return list
}

// relength gives the header the length of other packed bytes, and the sum it had.
func relength(header, packed string) string {
	b := []byte(header)
	binary.LittleEndian.PutUint16(b[3:], uint16(len(packed)))
	return string(b) + packed
}

// Reads that do not need a block answer as they did, whatever stands in it.
func TestDamageStaysWhereItIs(t *testing.T) {
	data := strings.Repeat("abcabdabc", 3) + "XYZXYZXYZ" + noise(4, 5, 12)
	file := pack(t, data, 6, 3)
	blocks := open(t, file).Blocks()
	for number, b := range blocks {
		end := len(file)
		if number+1 < len(blocks) {
			end = blocks[number+1].At
		}
		next := number + 1 // the next fresh one
		for next < len(blocks) && !blocks[next].Fresh {
			next++
		}
		for _, packed := range changed(file[b.At+9 : end]) {
			f := open(t, file[:b.At]+relength(file[b.At:b.At+9], packed)+file[end:])
			for from := range len(data) {
				for to := from + 1; to <= len(data); to++ {
					if (to-1)/6 < number || from/6 >= next {
						tryRead(t, f, from, to-from, data[from:to])
					}
				}
			}
			whole := open(t, file)
			for from := range len(data) {
				want := taken(whole.Chunks(from), -1)
				if from/6 < number {
					want = want[:number-from/6]
					if got := taken(f.Chunks(from), len(want)); !slices.Equal(got, want) {
						t.Errorf("P7: %q in block %d: Chunks(%d) ahead of it %v, want %v", packed, number, from, got, want)
					}
				} else if from/6 >= next {
					tryChunks(t, f, from, want...)
				}
			}
		}
	}
}
