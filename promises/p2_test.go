package promises

import (
	"math"
	"strings"
	"testing"

	"skipper/api"
	"skipper/skipper"
)

type packCase struct {
	data        string
	size, every int
	want        string // the blocks
}

func tryPacks(t *testing.T, cases []packCase) {
	t.Helper()
	for _, c := range cases {
		got, err := skipper.Pack(c.data, c.size, c.every)
		if want := "SK1" + c.want; err != nil || got != want {
			t.Errorf("P2: Pack(%.40q, %d, %d) = %.200q, %v, want %.200q", c.data, c.size, c.every, got, err, want)
		}
	}
}

func TestPackEveryByte(t *testing.T) {
	want := "SK1\x01\x0c\x00\x07\x00\xb1\x01\x66\x07\x02abc\x85\x03\x00"
	if got := pack(t, "abcabcabcabc", 12, 1); got != want || len(got) != 19 {
		t.Errorf("P2: the document's example: %q, want %q", got, want)
	}
	if got, want := pack(t, "", 1, 1), "SK1"; got != want {
		t.Errorf("P2: of nothing: %q, want %q", got, want)
	}
	if got, want := pack(t, "a", 1024, 100), "SK1\x01\x01\x00\x02\x00\x62\x00\x63\x00\x00a"; got != want {
		t.Errorf("P2: of one byte: %q, want %q", got, want)
	}
}

func TestPackOrdinary(t *testing.T) {
	tryPacks(t, []packCase{
		{"", 1, 1, ""}, {"", 1024, 100, ""},
		{"a", 1, 1, block(1, 1, "\x00a")},
		{"\x00\xff\x80", 3, 1, block(1, 3, "\x02\x00\xff\x80")},
		{"hello world", 1024, 1, block(1, 11, "\x0ahello world")},
		{"äöü€", 1024, 1, block(1, 9, "\x08äöü€")},
	})
}

func TestPackRepeats(t *testing.T) {
	tryPacks(t, []packCase{
		// Three are too few for a copy, four are enough.
		{"abcXabcY", 99, 1, block(1, 8, "\x07abcXabcY")},
		{"abcdXabcdY", 99, 1, block(1, 10, "\x04abcdX\x80\x05\x00\x00Y")},
		{"abcdabc", 99, 1, block(1, 7, "\x06abcdabc")},
		{"abcdabcd", 99, 1, block(1, 8, "\x03abcd\x80\x04\x00")},
		{"abcdeXabcdeY", 99, 1, block(1, 12, "\x05abcdeX\x81\x06\x00\x00Y")},
		// Copies behind one another, with no run between.
		{"abcdefghefghabcd", 99, 1, block(1, 16, "\x07abcdefgh\x80\x04\x00\x80\x0c\x00")},
		// Of equals the nearest.
		{"abcd1abcd2abcd3", 99, 1, block(1, 15, "\x04abcd1\x80\x05\x00\x002\x80\x05\x00\x003")},
		{"abcdefgabcdXYabcdZ", 99, 1, block(1, 18, "\x06abcdefg\x80\x07\x00\x01XY\x80\x06\x00\x00Z")},
		// The most bytes, though a nearer place has enough.
		{"abcdeXabcdYabcdeZ", 99, 1, block(1, 17, "\x05abcdeX\x80\x06\x00\x00Y\x81\x0b\x00\x00Z")},
		// The most bytes, though a farther place has enough.
		{"abcdXabcdeYabcdeZ", 99, 1, block(1, 17, "\x04abcdX\x80\x05\x00\x01eY\x81\x06\x00\x00Z")},
		// A copy at this place, though one place on there is a longer one.
		{"abcdXbcdefghYabcdefgh", 99, 1, block(1, 21, "\x0cabcdXbcdefghY\x80\x0d\x00\x80\x09\x00")},
	})
}

func TestPackIntoThePlace(t *testing.T) {
	tryPacks(t, []packCase{
		{"aaaa", 99, 1, block(1, 4, "\x03aaaa")},
		{"aaaaa", 99, 1, block(1, 5, "\x00a\x80\x01\x00")},
		{"ababab", 99, 1, block(1, 6, "\x01ab\x80\x02\x00")},
		{"ababababab", 99, 1, block(1, 10, "\x01ab\x84\x02\x00")},
		{"abcabcabcab!", 99, 1, block(1, 12, "\x02abc\x84\x03\x00\x00!")},
		{"abcdeabcdeabc", 99, 1, block(1, 13, "\x04abcde\x84\x05\x00")},
	})
}

func TestPackRuns(t *testing.T) {
	all := distinct(0, 256)
	tryPacks(t, []packCase{
		{all[:127], 1024, 1, block(1, 127, "\x7e"+all[:127])},
		{all[:128], 1024, 1, block(1, 128, "\x7f"+all[:128])},
		{all[:129], 1024, 1, block(1, 129, "\x7f"+all[:128]+"\x00\x80")},
		{all, 1024, 1, block(1, 256, "\x7f"+all[:128]+"\x7f"+all[128:])},
		{all + "x", 1024, 1, block(1, 257, "\x7f"+all[:128]+"\x7f"+all[128:]+"\x00x")},
		// A copy ends a run, at MaxRun too; behind it a new one begins.
		{all[:127] + all[:4], 1024, 1, block(1, 131, "\x7e"+all[:127]+"\x80\x7f\x00")},
		{all[:128] + all[:4] + "~", 1024, 1, block(1, 133, "\x7f"+all[:128]+"\x80\x80\x00\x00~")},
		{all[:129] + all[:4], 1024, 1, block(1, 133, "\x7f"+all[:128]+"\x00\x80\x80\x81\x00")},
		// A run ends with its block.
		{all[:130], 100, 2, block(1, 100, "\x63"+all[:100]) + block(0, 30, "\x1d"+all[100:130])},
		{all[:200], 129, 1, block(1, 129, "\x7f"+all[:128]+"\x00\x80") + block(1, 71, "\x46"+all[129:200])},
	})
}

func TestPackCopies(t *testing.T) {
	x := strings.Repeat("x", 500)
	p := distinct(100, 140)
	tryPacks(t, []packCase{
		{x[:131], 1024, 1, block(1, 131, "\x00x\xfe\x01\x00")},
		{x[:132], 1024, 1, block(1, 132, "\x00x\xff\x01\x00")},
		{x[:133], 1024, 1, block(1, 133, "\x00x\xff\x01\x00\x00x")},
		{x[:135], 1024, 1, block(1, 135, "\x00x\xff\x01\x00\x02xxx")},
		{x[:136], 1024, 1, block(1, 136, "\x00x\xff\x01\x00\x80\x01\x00")},
		{x[:263], 1024, 1, block(1, 263, "\x00x\xff\x01\x00\xff\x01\x00")},
		{x[:300], 1024, 1, block(1, 300, "\x00x\xff\x01\x00\xff\x01\x00\xa1\x01\x00")},
		// Beyond MaxCopy no place is better than another: the nearest.
		{p + "1" + p[:131] + "2" + p, 1024, 1, block(1, 413,
			"\x7f"+p[:128]+"\x0c"+p[128:]+"1"+"\xff\x8d\x00"+"\x002"+"\xff\x84\x00"+"\x85\x11\x01")},
	})
}

func TestPackDistances(t *testing.T) {
	all := distinct(0, 256)
	tryPacks(t, []packCase{
		{all[:255] + all[:5], 1024, 1, block(1, 260, "\x7f"+all[:128]+"\x7e"+all[128:255]+"\x81\xff\x00")},
		{all + all[:5], 1024, 1, block(1, 261, "\x7f"+all[:128]+"\x7f"+all[128:]+"\x81\x00\x01")},
		{all + "-" + all[:5], 1024, 1, block(1, 262, "\x7f"+all[:128]+"\x7f"+all[128:]+"\x00-"+"\x81\x01\x01")},
	})
	far := "wxyz" + strings.Repeat("a", 19992) + "wxyz"
	full := "\xff\x01\x00"
	want := block(0, 544, full+full+full+full+"\x8c\x01\x00"+"\x80\x1c\x4e")
	if got := pack(t, far, 1024, 100); !strings.HasSuffix(got, want) || got != wantPacked(far, 1024, 100) {
		t.Errorf("P2: a copy from 19996 back: %.100q", got[len(got)-len(want):])
	}
	if got := pack(t, far, 1024, 19); !strings.HasSuffix(got, block(1, 544, "\x00a"+full+full+full+full+"\x8b\x01\x00"+"\x03wxyz")) {
		t.Errorf("P2: the last block is fresh: %.100q", got[len(got)-len(want):])
	}
}

func TestPackBlocks(t *testing.T) {
	abcd, again := "\x03abcd", "\x80\x04\x00"
	five := strings.Repeat("abcd", 5)
	tryPacks(t, []packCase{
		{"abcabcabcabc", 6, 2, block(1, 6, "\x05abcabc") + block(0, 6, "\x82\x03\x00")},
		{"abcabcabcabc", 6, 1, block(1, 6, "\x05abcabc") + block(1, 6, "\x05abcabc")},
		{five, 4, 1, block(1, 4, abcd) + block(1, 4, abcd) + block(1, 4, abcd) + block(1, 4, abcd) + block(1, 4, abcd)},
		{five, 4, 2, block(1, 4, abcd) + block(0, 4, again) + block(1, 4, abcd) + block(0, 4, again) + block(1, 4, abcd)},
		{five, 4, 3, block(1, 4, abcd) + block(0, 4, again) + block(0, 4, again) + block(1, 4, abcd) + block(0, 4, again)},
		{five, 4, 100, block(1, 4, abcd) + block(0, 4, again) + block(0, 4, again) + block(0, 4, again) + block(0, 4, again)},
		// The reach ends where the last fresh block begins.
		{"abcdefghabcd", 4, 2, block(1, 4, abcd) + block(0, 4, "\x03efgh") + block(1, 4, abcd)},
		{"abcdefghabcd", 4, 3, block(1, 4, abcd) + block(0, 4, "\x03efgh") + block(0, 4, "\x80\x08\x00")},
		{"abcdefghijklabcd", 4, 2, block(1, 4, abcd) + block(0, 4, "\x03efgh") + block(1, 4, "\x03ijkl") + block(0, 4, abcd)},
		{"abcdefghijklmnopijkl", 4, 2, block(1, 4, abcd) + block(0, 4, "\x03efgh") + block(1, 4, "\x03ijkl") + block(0, 4, "\x03mnop") + block(1, 4, "\x03ijkl")},
		{"....abcdefghabcd", 4, 9, block(1, 4, "\x03....") + block(0, 4, abcd) + block(0, 4, "\x03efgh") + block(0, 4, "\x80\x08\x00")},
		// A copy from two blocks, and one that ends with its block.
		{"xxabcdeyabcdezzz", 5, 9, block(1, 5, "\x04xxabc") + block(0, 5, "\x04deyab") + block(0, 5, "\x04cdezz") + block(0, 1, "\x00z")},
		{"xxabcdyyabcdyyzz", 8, 9, block(1, 8, "\x07xxabcdyy") + block(0, 8, "\x82\x06\x00\x01zz")},
		{"abcdefabcdef", 9, 2, block(1, 9, "\x08abcdefabc") + block(0, 3, "\x02def")},
		{"abcdefabcdef", 10, 2, block(1, 10, "\x05abcdef\x80\x06\x00") + block(0, 2, "\x01ef")},
		// What is the same behind the block's end does not count: the nearest.
		{"abcdefgh1abcdX2abcdefgh", 19, 2, block(1, 19, "\x08abcdefgh1\x80\x09\x00\x01X2\x80\x06\x00") + block(0, 4, "\x80\x0f\x00")},
		{"abcd", 1, 3, block(1, 1, "\x00a") + block(0, 1, "\x00b") + block(0, 1, "\x00c") + block(1, 1, "\x00d")},
		{"abc", 2, 1, block(1, 2, "\x01ab") + block(1, 1, "\x00c")},
		{"ab", 2, 1, block(1, 2, "\x01ab")},
	})
}

// The fresh blocks are those of the greatest every, too.
func TestPackEvery(t *testing.T) {
	data := noise(3, 256, 202)
	want := "SK1"
	for i := range len(data) {
		want += block(map[bool]byte{true: 1}[i%100 == 0], 1, "\x00"+data[i:i+1])
	}
	if got := pack(t, data, 1, 100); got != want {
		t.Errorf("P2: every 100: %.100q, want %.100q", got, want)
	}
}

// All texts of two letters, with all ways to cut them.
func TestPackSmall(t *testing.T) {
	for length := range 11 {
		for bits := range 1 << length {
			data := make([]byte, length)
			for i := range data {
				data[i] = "ab"[bits>>i&1]
			}
			for size := 1; size <= length+1; size++ {
				for every := 1; every <= 3; every++ {
					want := wantPacked(string(data), size, every)
					if got := pack(t, string(data), size, every); got != want {
						t.Fatalf("P2: Pack(%q, %d, %d) = %q, want %q", data, size, every, got, want)
					}
				}
			}
		}
	}
}

func TestPackLong(t *testing.T) {
	for i, kinds := range []uint32{1, 2, 3, 5, 26, 256} {
		for _, length := range []int{1, 127, 129, 1000, 2500} {
			for _, size := range []int{5, 64, 132, 255, 256, 257, 1023, 1024} {
				for _, every := range []int{1, 2, 7, 100} {
					data := noise(uint32(i*7+length), kinds, length)
					data += data[length/3:] + data[:length/2]
					want := wantPacked(data, size, every)
					if got := pack(t, data, size, every); got != want {
						t.Fatalf("P2: Pack of %d bytes of %d kinds, %d, %d: it is not the file", len(data), kinds, size, every)
					}
				}
			}
		}
	}
	data := noise(11, 3, 20000)
	if got := pack(t, data, 1024, 100); got != wantPacked(data, 1024, 100) {
		t.Errorf("P2: Pack of %d bytes: it is not the file", len(data))
	}
}

func TestPackErrSize(t *testing.T) {
	big := strings.Repeat("0123456789", 2000)
	for _, c := range []struct {
		data        string
		size, every int
	}{
		{big + "x", 1024, 100}, {big + "x", 1024, 1}, {big + big + big + big, 1024, 1}, {big + "x", 0, 0},
		{"a", 0, 1}, {"a", -1, 1}, {"a", 1025, 1}, {"a", 2048, 1}, {"a", math.MaxInt, 1}, {"a", math.MinInt, 1},
		{"a", 1, 0}, {"a", 1, -1}, {"a", 1, 101}, {"a", 1, 65536}, {"a", 1, math.MaxInt}, {"a", 1, math.MinInt},
		{"", 0, 1}, {"", 1025, 1}, {"", 1, 0}, {"", 1, 101}, {"", 0, 0}, {"", math.MinInt, math.MaxInt},
		{"a", 1 << 32, 1}, {"a", 1<<32 + 1, 1}, {"a", 1, 1<<32 + 1}, {"a", 1<<16 + 1, 1}, {"a", 1, 257},
		{big, 1, 1}, {big, 1, 100}, {big[:5958], 1, 1}, {big[:18724], 4, 1}, {big, 4, 1},
	} {
		if got, err := skipper.Pack(c.data, c.size, c.every); err != api.ErrSize || got != "" {
			t.Errorf("P2: Pack of %d bytes, %d, %d = %d bytes, %v, want ErrSize and nothing", len(c.data), c.size, c.every, len(got), err)
		}
	}
}

// What is just within the limits is packed.
func TestPackNoErrSize(t *testing.T) {
	big := strings.Repeat("0123456789", 2000)
	for _, c := range []struct {
		data                string
		size, every, length int // of the file; 0: not told here
	}{
		{big, 1024, 100, 0}, {big, 1024, 1, 0}, {big[:19999], 1023, 99, 0},
		{"a", 1, 1, 14}, {"a", 1024, 100, 14}, {"", 1, 1, 3}, {"", 1024, 100, 3},
		{big[:5957], 1, 1, 65530}, {big[:5957], 1, 100, 65530},
		{big[:18723], 4, 1, 65536}, {big[:18722], 4, 1, 65535}, {big[:15123], 3, 1, 65536},
	} {
		got, err := skipper.Pack(c.data, c.size, c.every)
		if err != nil || c.length > 0 && len(got) != c.length || got != wantPacked(c.data, c.size, c.every) {
			t.Errorf("P2: Pack of %d bytes, %d, %d = %d bytes, %v", len(c.data), c.size, c.every, len(got), err)
		}
	}
}
