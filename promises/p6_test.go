package promises

import (
	"fmt"
	"iter"
	"math"
	"slices"
	"strings"
	"testing"

	"skipper/skipper"
)

// taken goes through chunks, and leaves behind so many of them.
func taken(all iter.Seq2[int, string], many int) []chunk {
	var list []chunk
	if many == 0 {
		return list
	}
	for number, data := range all {
		list = append(list, chunk{number, data})
		if len(list) == many {
			break
		}
	}
	return list
}

func tryChunks(t *testing.T, f *skipper.File, from int, want ...chunk) {
	t.Helper()
	all := f.Chunks(from)
	if all == nil {
		t.Fatalf("P6: Chunks(%d) of %d bytes is nil", from, f.Size())
	}
	if got := taken(all, -1); !slices.Equal(got, want) {
		t.Errorf("P6: Chunks(%d) of %d bytes = %.300s, want %.300s", from, f.Size(), fmt.Sprint(got), fmt.Sprint(want))
	}
}

// outside are places that are no byte of a file of that size.
func outside(size int) []int {
	return []int{math.MinInt, math.MinInt + 1, -1 << 32, -1 << 31, -20000, -size - 1, -2, -1, size, size + 1, size + 1024, size + 20000, 1 << 31, 1 << 32, 1 << 62, math.MaxInt - 1, math.MaxInt}
}

// tryEveryChunk ranges from each byte on, and from places where none is.
func tryEveryChunk(t *testing.T, file string) {
	t.Helper()
	f, all := open(t, file), wantBlocks(file)
	for from := range f.Size() {
		tryChunks(t, f, from, wantChunks(all, from)...)
	}
	for _, from := range outside(f.Size()) {
		tryChunks(t, f, from)
	}
}

func TestChunksExample(t *testing.T) {
	file := pack(t, "abcabcabcabc", 6, 2)
	f := open(t, file)
	tryChunks(t, f, 0, chunk{0, "abcabc"}, chunk{1, "abcabc"})
	tryChunks(t, f, 4, chunk{0, "bc"}, chunk{1, "abcabc"})
	tryChunks(t, f, 5, chunk{0, "c"}, chunk{1, "abcabc"})
	tryChunks(t, f, 6, chunk{1, "abcabc"})
	tryChunks(t, f, 7, chunk{1, "bcabc"})
	tryChunks(t, f, 11, chunk{1, "c"})
	tryChunks(t, f, 12)
	tryChunks(t, f, -1)
	g := open(t, turned(file, len(file)-1, 1))
	tryChunks(t, g, 0, chunk{0, "abcabc"})
	tryChunks(t, g, 5, chunk{0, "c"})
	tryChunks(t, g, 6)
}

// From any byte on, in fresh blocks and others.
func TestChunksEveryByte(t *testing.T) {
	data := "abcabcabcabcdefgabcdefgabcabcXYZaaaaaaaaaaaaaaXYZabc"
	for _, size := range []int{1, 2, 5, 7, 13, 51, 52, 53, 1024} {
		for _, every := range []int{1, 2, 3, 100} {
			f := open(t, pack(t, data, size, every))
			for from := range len(data) {
				var want []chunk
				for n := from / size; n*size < len(data); n++ {
					want = append(want, chunk{n, data[max(from, n*size):min(n*size+size, len(data))]})
				}
				tryChunks(t, f, from, want...)
			}
		}
	}
}

// Blocks of different sizes, as no call packs them.
func TestChunksUnevenBlocks(t *testing.T) {
	tryEveryChunk(t, "SK1"+block(1, 1, "\x00a")+block(0, 5, "\x81\x01\x00")+block(0, 2, "\x01bc")+block(1, 8, "\x02xyz\x81\x03\x00")+block(1, 3, "\x02def")+block(0, 130, "\xfe\x03\x00")+block(0, 1, "\x00!"))
}

func TestChunksOutside(t *testing.T) {
	for _, file := range []string{"SK1", "SK1" + block(1, 1, "\x00a"), "SK1" + strings.Join(four, ""), "SK1" + block(1, 1, ""), pack(t, noise(3, 9, 20000), 1000, 5)} {
		f := open(t, file)
		for _, from := range outside(f.Size()) {
			tryChunks(t, f, from)
		}
	}
}

func TestChunksLong(t *testing.T) {
	for i, kinds := range []uint32{1, 2, 5, 256} {
		data := noise(uint32(i), kinds, 10000)
		data += data[:9000] + data[500:1500]
		for _, cut := range [][2]int{{1024, 1}, {1024, 100}, {1000, 3}, {77, 2}, {256, 7}} {
			f := open(t, pack(t, data, cut[0], cut[1]))
			for _, from := range []int{0, 1, cut[0] - 1, cut[0], cut[0] + 1, 9999, 10000, 19998, 19999} {
				list := taken(f.Chunks(from), -1)
				got := ""
				for j, c := range list {
					got += c.data
					if c.number != from/cut[0]+j {
						t.Errorf("P6: Chunks(%d), blocks of %d: block %d at %d", from, cut[0], c.number, j)
					}
				}
				if got != data[from:] || len(list) != (len(data)-1)/cut[0]-from/cut[0]+1 {
					t.Errorf("P6: Chunks(%d), blocks of %d: %d bytes in %d chunks", from, cut[0], len(got), len(list))
				}
			}
		}
	}
}

func TestChunksManyBlocks(t *testing.T) {
	data := noise(9, 256, 5900)
	var want []chunk
	for i := range len(data) {
		want = append(want, chunk{i, data[i : i+1]})
	}
	for _, every := range []int{1, 7, 100} {
		f := open(t, pack(t, data, 1, every))
		for _, from := range []int{0, 1, 99, 100, 101, 4321, 5898, 5899} {
			tryChunks(t, f, from, want[from:]...)
		}
	}
}

// The one that ranges leaves behind any chunk: no more is yielded.
func TestChunksLeft(t *testing.T) {
	for _, file := range []string{"SK1" + strings.Join(four, ""), fileOf("GggGgGGg"), fileOf("GggsgGg"), fileOf("GgGTgG")} {
		f, told := open(t, file), wantBlocks(file)
		for from := range f.Size() {
			want := wantChunks(told, from)
			for many := 1; many <= len(want)+1; many++ {
				var got []chunk
				f.Chunks(from)(func(number int, data string) bool {
					got = append(got, chunk{number, data})
					return len(got) < many
				})
				if !slices.Equal(got, want[:min(many, len(want))]) {
					t.Errorf("P6: %q: Chunks(%d), left behind %d: %v, want of %v", file, from, many, got, want)
				}
			}
		}
	}
}

// Leaving by a return, out of two loops at once too.
func TestChunksReturn(t *testing.T) {
	f := open(t, "SK1"+strings.Join(four, ""))
	find := func(from int, data string) (int, int) {
		for i, a := range f.Chunks(from) {
			for j, b := range f.Chunks(4 * i) {
				if a+b == data {
					return i, j
				}
			}
		}
		return -1, -1
	}
	if i, j := find(0, "abcdyzyz"); i != 0 || j != 3 {
		t.Errorf("P6: %d, %d", i, j)
	}
	if i, j := find(5, "bcdwxyz"); i != 1 || j != 2 {
		t.Errorf("P6: %d, %d", i, j)
	}
	if i, j := find(5, "wxyzabcd"); i != -1 || j != -1 {
		t.Errorf("P6: %d, %d", i, j)
	}
}

// The same one gone through over again begins anew, however it was left.
func TestChunksOverAgain(t *testing.T) {
	for _, file := range []string{"SK1" + strings.Join(four, ""), fileOf("GgsGgg"), fileOf("GgtGgg"), "SK1"} {
		f, told := open(t, file), wantBlocks(file)
		for _, from := range []int{-1, 0, 1, 4, 6, 9, 12, 15, 16, 99} {
			all, want := f.Chunks(from), wantChunks(told, from)
			for _, many := range []int{-1, 1, -1, 2, 1, 3, 0, -1, -1} {
				part := want
				if many >= 0 {
					part = want[:min(many, len(want))]
				}
				if got := taken(all, many); !slices.Equal(got, part) {
					t.Errorf("P6: %q: Chunks(%d) over again, %d of them: %v, want %v", file, from, many, got, part)
				}
			}
		}
	}
}

// One within the other, of the same and of another beginning.
func TestChunksWithin(t *testing.T) {
	file := "SK1" + strings.Join(four, "")
	f, told := open(t, file), wantBlocks(file)
	for from := range 16 {
		all := f.Chunks(from)
		var got []chunk
		for number, data := range all {
			got = append(got, chunk{number, data})
			if inner := taken(all, -1); !slices.Equal(inner, wantChunks(told, from)) {
				t.Errorf("P6: Chunks(%d) within itself: %v", from, inner)
			}
			if inner := taken(f.Chunks(number), 2); !slices.Equal(inner, wantChunks(told, number)[:2]) {
				t.Errorf("P6: Chunks(%d) within Chunks(%d): %v", number, from, inner)
			}
		}
		if !slices.Equal(got, wantChunks(told, from)) {
			t.Errorf("P6: Chunks(%d), others within: %v", from, got)
		}
	}
}

// Two beside one another, step by step, one of which stops early.
func TestChunksBeside(t *testing.T) {
	f := open(t, "SK1"+strings.Join(four, ""))
	all := f.Chunks(2)
	first, stopFirst := iter.Pull2(all)
	second, stopSecond := iter.Pull2(all)
	defer stopSecond()
	step := func(next func() (int, string, bool), want chunk, more bool) {
		t.Helper()
		if number, data, ok := next(); ok != more || (chunk{number, data}) != want {
			t.Errorf("P6: %d, %q, %v, want %v, %v", number, data, ok, want, more)
		}
	}
	step(first, chunk{0, "cd"}, true)
	step(first, chunk{1, "abcd"}, true)
	step(second, chunk{0, "cd"}, true)
	step(first, chunk{2, "wxyz"}, true)
	step(second, chunk{1, "abcd"}, true)
	stopFirst()
	step(first, chunk{}, false)
	step(second, chunk{2, "wxyz"}, true)
	step(second, chunk{3, "yzyz"}, true)
	step(second, chunk{}, false)
	step(second, chunk{}, false)
}

func TestChunksDamaged(t *testing.T) {
	for _, c := range []struct {
		kinds string
		block int // the one from which on
		want  []int
	}{
		{"S", 0, nil}, {"T", 0, nil}, {"B", 0, nil}, {"Gs", 0, []int{0}}, {"Gt", 0, []int{0}}, {"Gs", 1, nil}, {"Gt", 1, nil},
		// It does not go on behind a bad one, not at a fresh one either.
		{"GsG", 0, []int{0}}, {"GtG", 0, []int{0}}, {"GSG", 0, []int{0}}, {"GTG", 0, []int{0}}, {"SG", 0, nil}, {"GggSGg", 1, []int{1, 2}},
		// What follows a bad one cannot be read, though it is good itself.
		{"Sgg", 1, nil}, {"Tgg", 2, nil}, {"GsggG", 2, nil}, {"GtggG", 3, nil}, {"GsgGg", 3, []int{3, 4}}, {"GtgGg", 4, []int{4}},
		// What is bad ahead of the last fresh one, or behind the end, does not matter.
		{"SGg", 1, []int{1, 2}}, {"SGg", 2, []int{2}}, {"GsGgGs", 2, []int{2, 3, 4}}, {"STBGg", 3, []int{3, 4}},
	} {
		f := open(t, fileOf(c.kinds))
		for skip := range 4 {
			var want []chunk
			for i, number := range c.want {
				want = append(want, chunk{number, "abcd"})
				if i == 0 {
					want[0].data = "abcd"[skip:]
				}
			}
			tryChunks(t, f, 4*c.block+skip, want...)
		}
	}
}

// All files of up to five blocks.
func TestChunksKinds(t *testing.T) {
	list := []string{"G", "S", "T"}
	for len(list) > 0 {
		kinds := list[0]
		list = list[1:]
		tryEveryChunk(t, fileOf(kinds))
		if len(kinds) < 5 {
			for _, k := range "gstGST" {
				list = append(list, kinds+string(k))
			}
		}
	}
}

// Each way in which tokens are not good ends it, the data ahead of them yielded.
func TestChunksTokens(t *testing.T) {
	for _, packed := range []string{"", "\x03", "\x03abc", "\x02abc", "\x04abcde", "\x03abcd\x00", "\x80", "\x80\x04", "\x80\x00\x00", "\x80\x00\x00\x03abcd", "\x80\x0d\x00", "\x81\x04\x00", "\x80\x04\x00\x80"} {
		for number := range four {
			list := slices.Clone(four)
			list[number] = block(four[number][0], 4, packed)
			file := "SK1" + strings.Join(list, "")
			tryEveryChunk(t, file)
			if got := taken(open(t, file).Chunks(0), -1); len(got) != number {
				t.Errorf("P6: %q in block %d: %v", packed, number, got)
			}
		}
	}
	// A copy reaches back to the last fresh block, from where the range begins or not.
	tryChunks(t, open(t, "SK1"+four[0]+four[1]+block(0, 4, "\x80\x08\x00")), 9, chunk{2, "bcd"})
	tryChunks(t, open(t, "SK1"+four[0]+four[1]+block(0, 4, "\x80\x09\x00")), 9)
	tryChunks(t, open(t, "SK1"+four[0]+four[1]+block(1, 4, "\x80\x08\x00")), 0, chunk{0, "abcd"}, chunk{1, "abcd"})
	tryChunks(t, open(t, "SK1"+four[0]+four[2]+block(0, 4, "\x80\x05\x00")), 0, chunk{0, "abcd"}, chunk{1, "wxyz"})
}

func TestChunksDrawn(t *testing.T) {
	for seed := range uint32(1500) {
		tryEveryChunk(t, drawn(seed))
	}
}

// A chunk is yielded just where ReadAt reads all up to its end.
func TestChunksAsRead(t *testing.T) {
	for seed := range uint32(500) {
		f := open(t, drawn(seed))
		blocks := f.Blocks()
		for from := range f.Size() {
			var want []chunk
			for i, b := range blocks {
				if from >= b.From+b.Size {
					continue
				}
				if _, err := f.ReadAt(from, b.From+b.Size-from); err != nil {
					break
				}
				start := max(from, b.From)
				data, _ := f.ReadAt(start, b.From+b.Size-start)
				want = append(want, chunk{i, data})
			}
			tryChunks(t, f, from, want...)
		}
	}
}
