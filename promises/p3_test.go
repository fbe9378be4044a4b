package promises

import (
	"slices"
	"strings"
	"testing"

	"skipper/api"
	"skipper/skipper"
)

const (
	one = "\x05abcabc"
	two = "\x82\x03\x00"
)

// blocks makes count fresh blocks of that size, with nothing packed.
func blocks(count, size int) string {
	return strings.Repeat(block(1, size, ""), count)
}

// header is that of a block whose packed bytes are missing.
func header(fresh byte, size int) string {
	return block(fresh, size, "xyz")[:9]
}

func tryOpens(t *testing.T, want error, files ...string) {
	t.Helper()
	for i, file := range files {
		f, err := skipper.Open(file)
		if err != want || (f == nil) != (want != nil) {
			t.Errorf("P3: %d: Open of %d bytes %.60q = a file: %v, %v, want %v", i, len(file), file, f != nil, err, want)
		}
	}
}

func TestOpenErrSize(t *testing.T) {
	tryOpens(t, api.ErrSize,
		"SK1"+block(1, 1, strings.Repeat("x", 65525)),
		"SK1"+block(1, 1, strings.Repeat("x", 65500))+block(0, 1, strings.Repeat("x", 16)),
		"SK1"+strings.Repeat("x", 65534),
		strings.Repeat("x", 65537), strings.Repeat("x", 1<<20), strings.Repeat("\x00", 65537),
	)
	tryOpens(t, nil,
		"SK1"+block(1, 1, strings.Repeat("x", 65524)),
		"SK1"+block(1, 1, strings.Repeat("x", 65500))+block(0, 1, strings.Repeat("x", 15)),
	)
}

func TestOpenErrMagic(t *testing.T) {
	tryOpens(t, api.ErrMagic,
		"", "S", "SK", "K1", "SK0", "SK2", "sk1", "Sk1", "XK1", "SX1", " SK1", "\x00SK1", "1KS",
		"SK\x01", "SK"+block(1, 6, one), "SK2"+block(1, 6, one), block(1, 6, one), strings.Repeat("x", 65536),
	)
	tryOpens(t, nil, "SK1", "SK1"+block(1, 6, one))
}

// ErrEnd for the header goes ahead of all that the header says.
func TestOpenErrEndHeader(t *testing.T) {
	for n := 1; n < 9; n++ {
		tryOpens(t, api.ErrEnd,
			"SK1"+block(1, 6, one)[:n], "SK1"+header(0, 6)[:n], "SK1"+header(2, 0)[:n], "SK1"+header(1, 1025)[:n],
			"SK1"+block(1, 6, one)+block(0, 6, two)[:n], "SK1"+block(1, 6, one)+header(2, 0)[:n],
			"SK1"+block(1, 6, one)+block(0, 6, two)+header(1, 1)[:n],
			"SK1"+blocks(19, 1024)+blocks(1, 545)[:n], "SK1"+blocks(19, 1024)+blocks(1, 544)+header(1, 1)[:n],
		)
	}
}

func TestOpenErrEndPacked(t *testing.T) {
	first := "SK1" + block(1, 6, one)
	for n := 9; n < len(block(1, 6, one)); n++ {
		tryOpens(t, api.ErrEnd, "SK1"+block(1, 6, one)[:n], first+block(1, 6, one)[:n], first+block(0, 6, one)[:n])
	}
	long := block(1, 1, strings.Repeat("x", 256))
	tryOpens(t, api.ErrEnd, "SK1"+long[:9], "SK1"+long[:10], "SK1"+long[:len(long)-1], first+long[:len(long)-1],
		"SK1"+block(1, 1, strings.Repeat("x", 65535))[:65533])
	tryOpens(t, nil, "SK1"+long, first+long, "SK1"+block(1, 1, ""), first+block(0, 1, ""), first+block(1, 1, "x"))
}

func TestOpenErrHeader(t *testing.T) {
	first := "SK1" + block(1, 6, one)
	for _, packed := range []string{"", "x", one} {
		for _, mark := range []byte{2, 3, 48, 49, 127, 128, 129, 254, 255} {
			tryOpens(t, api.ErrHeader, "SK1"+block(mark, 6, packed), first+block(mark, 6, packed))
		}
		for _, size := range []int{0, 1025, 1026, 1280, 2048, 32768, 32769, 65535} {
			tryOpens(t, api.ErrHeader, "SK1"+block(1, size, packed), first+block(1, size, packed), first+block(0, size, packed))
		}
		for _, size := range []int{1, 2, 255, 256, 257, 512, 1023, 1024} {
			tryOpens(t, nil, "SK1"+block(1, size, packed), first+block(1, size, packed), first+block(0, size, packed))
			tryOpens(t, api.ErrHeader, "SK1"+block(0, size, packed), "SK1"+block(0, size, packed)+block(1, 6, one))
		}
	}
}

func TestOpenErrHeaderData(t *testing.T) {
	nearly := "SK1" + blocks(19, 1024)
	tryOpens(t, nil, nearly+block(0, 544, "junk"), nearly+block(1, 543, "")+block(0, 1, ""), "SK1"+blocks(20, 1000),
		"SK1"+block(1, 1, "")+strings.Repeat(block(0, 1, ""), 7280))
	tryOpens(t, api.ErrHeader, nearly+block(0, 545, "junk"), nearly+block(1, 1024, ""), nearly+block(1, 544, "")+block(0, 1, ""),
		nearly+block(0, 545, "")+block(1, 1, ""), nearly+block(1, 544, "")+block(1, 1, "")+"x", "SK1"+blocks(20, 1001), "SK1"+blocks(100, 1024))
}

// At each block ErrHeader goes ahead of ErrEnd for its packed bytes, and what
// is wrong with a block ahead of what is wrong with those behind it.
func TestOpenOrder(t *testing.T) {
	first := "SK1" + block(1, 6, one)
	nearly := "SK1" + blocks(19, 1024)
	tryOpens(t, api.ErrHeader,
		"SK1"+header(2, 6), "SK1"+header(0, 6), "SK1"+header(1, 0), "SK1"+header(1, 1025), "SK1"+header(0, 6)+"xy",
		first+header(2, 6), first+header(1, 0), first+header(0, 1025), first+header(255, 65535)+"x",
		nearly+header(0, 545), nearly+header(1, 1024), nearly+header(1, 545)+"xy",
		"SK1"+block(2, 6, one)+"\x00", "SK1"+block(0, 6, one)+header(1, 6), first+block(0, 0, two)+"x", nearly+block(0, 545, "")+"x",
	)
	tryOpens(t, api.ErrEnd, "SK1"+header(1, 6), first+header(1, 6), first+header(0, 6), nearly+header(0, 544), nearly+header(1, 544)+"xy",
		// The packed bytes of the first block take in the second one's header, which is not good.
		"SK1"+block(1, 6, strings.Repeat("x", 40))[:9]+block(2, 0, "x"))
}

// What is packed, and its sum, are not looked at.
func TestOpenJunk(t *testing.T) {
	wrong := []byte("SK1" + block(1, 6, one) + block(0, 6, two))
	for i := range 4 {
		wrong[8+i]++
		wrong[24+i]--
	}
	tryOpens(t, nil, string(wrong), "SK1"+block(1, 6, ""), "SK1"+block(1, 1, "\xff"), "SK1"+block(1, 1, "\xff\x00\x00"),
		"SK1"+block(1, 1024, "\x80\xff\xff"), "SK1"+block(1, 1, one)+block(0, 1000, "\x00"), "SK1"+block(1, 9, "SK1"))
}

func tryBlocks(t *testing.T, file string, size int, want []api.Block) {
	t.Helper()
	f := open(t, file)
	if got := f.Size(); got != size {
		t.Errorf("P3: %.60q: Size %d, want %d", file, got, size)
	}
	if got := f.Blocks(); !slices.Equal(got, want) {
		t.Errorf("P3: %.60q: Blocks %v, want %v", file, got, want)
	}
}

func TestBlocks(t *testing.T) {
	a, b := block(1, 6, one), block(0, 6, two)
	tryBlocks(t, "SK1", 0, nil)
	tryBlocks(t, "SK1"+a, 6, []api.Block{{From: 0, Size: 6, At: 3, Fresh: true}})
	tryBlocks(t, "SK1"+a+b+a, 18, []api.Block{{From: 0, Size: 6, At: 3, Fresh: true}, {From: 6, Size: 6, At: 19}, {From: 12, Size: 6, At: 31, Fresh: true}})
	tryBlocks(t, "SK1"+a+a+b+b, 24, []api.Block{{From: 0, Size: 6, At: 3, Fresh: true}, {From: 6, Size: 6, At: 19, Fresh: true}, {From: 12, Size: 6, At: 35}, {From: 18, Size: 6, At: 47}})
	tryBlocks(t, "SK1"+block(1, 1024, "")+block(0, 1, strings.Repeat("x", 300))+block(1, 258, "xy")+block(0, 256, "z"), 1539, []api.Block{
		{From: 0, Size: 1024, At: 3, Fresh: true}, {From: 1024, Size: 1, At: 12}, {From: 1025, Size: 258, At: 321, Fresh: true}, {From: 1283, Size: 256, At: 332}})
	tryBlocks(t, "SK1"+block(1, 3, strings.Repeat("x", 65500))+block(0, 2, ""), 5, []api.Block{{From: 0, Size: 3, At: 3, Fresh: true}, {From: 3, Size: 2, At: 65512}})
}

func TestBlocksMany(t *testing.T) {
	file, want := "SK1", []api.Block(nil)
	for i := range 5000 {
		want = append(want, api.Block{From: 4 * i, Size: 4, At: len(file), Fresh: i%3 == 0})
		file += block(map[bool]byte{true: 1}[i%3 == 0], 4, "xyz"[:i%4])
	}
	tryBlocks(t, file, 20000, want)
}

func TestBlocksOfPacked(t *testing.T) {
	for _, c := range []struct{ length, size, every int }{{0, 5, 1}, {1, 5, 1}, {5, 5, 1}, {6, 5, 2}, {5957, 1, 7}, {20000, 1024, 100}, {20000, 1000, 3}, {12345, 77, 2}} {
		f := open(t, pack(t, noise(uint32(c.length), 4, c.length), c.size, c.every))
		list := f.Blocks()
		if f.Size() != c.length || len(list) != (c.length+c.size-1)/c.size {
			t.Errorf("P3: %v: Size %d, %d blocks", c, f.Size(), len(list))
		}
		for i, b := range list {
			if b.From != i*c.size || b.Size != min(c.size, c.length-b.From) || b.Fresh != (i%c.every == 0) {
				t.Fatalf("P3: %v: block %d: %v", c, i, b)
			}
		}
	}
}

// Files in which something is turned, cut off, taken out or put in.
func TestOpenTurned(t *testing.T) {
	whole := "SK1" + block(1, 6, one) + block(0, 1024, two) + block(1, 256, "") + block(0, 1, "\x00a")
	try := func(file string) {
		t.Helper()
		list, size, want := wantOpened(file)
		f, err := skipper.Open(file)
		if err != want || (f == nil) != (want != nil) {
			t.Fatalf("P3: Open(%q) = a file: %v, %v, want %v", file, f != nil, err, want)
		}
		if f != nil && (f.Size() != size || !slices.Equal(f.Blocks(), list)) {
			t.Fatalf("P3: Open(%q): Size %d, Blocks %v, want %d, %v", file, f.Size(), f.Blocks(), size, list)
		}
	}
	for i := range len(whole) + 1 {
		try(whole[:i])
		try(whole[i:])
		for c := range 256 {
			put := string([]byte{byte(c)})
			try(whole[:i] + put + whole[i:])
			if i < len(whole) {
				try(whole[:i] + put + whole[i+1:])
			}
		}
		for j := i; j <= len(whole); j++ {
			try(whole[:i] + whole[j:])
		}
	}
}
