package promises

import (
	"errors"
	"math"
	"strings"
	"testing"

	"skipper/api"
	"skipper/skipper"
)

func tryRead(t *testing.T, f *skipper.File, from, count int, want string) {
	t.Helper()
	if got, err := f.ReadAt(from, count); err != nil || got != want {
		t.Errorf("P4: ReadAt(%d, %d) = %.60q, %v, want %.60q", from, count, got, err, want)
	}
}

func tryRange(t *testing.T, f *skipper.File, from, count int) {
	t.Helper()
	if got, err := f.ReadAt(from, count); err != api.ErrRange || got != "" {
		t.Errorf("P4: ReadAt(%d, %d) of %d bytes = %.60q, %v, want ErrRange", from, count, f.Size(), got, err)
	}
}

func tryDamage(t *testing.T, f *skipper.File, from, count, number int, why error) {
	t.Helper()
	got, err := f.ReadAt(from, count)
	var d *api.Damage
	if !errors.As(err, &d) {
		t.Errorf("P4: ReadAt(%d, %d) = %.60q, %v, want damage of block %d, %v", from, count, got, err, number, why)
		return
	}
	other := api.ErrSum
	if why == api.ErrSum {
		other = api.ErrToken
	}
	if got != "" || d.Block != number || d.Err != why || !errors.Is(err, why) || errors.Is(err, other) || errors.Is(err, api.ErrRange) {
		t.Errorf("P4: ReadAt(%d, %d) = %.60q, damage of block %d, %v, want of block %d, %v", from, count, got, d.Block, d.Err, number, why)
	}
	if err.Error() == "" {
		t.Errorf("P4: ReadAt(%d, %d): an error without a text", from, count)
	}
}

// tryAsTold holds a read against the document's words.
func tryAsTold(t *testing.T, f *skipper.File, all []told, from, count int) {
	t.Helper()
	want, number, why := wantRead(all, from, count)
	if why != nil {
		tryDamage(t, f, from, count, number, why)
		return
	}
	tryRead(t, f, from, count, want)
}

// tryEdges reads all parts that begin or end at, or a byte beside, the edge of
// a block.
func tryEdges(t *testing.T, file string) {
	t.Helper()
	f, all := open(t, file), wantBlocks(file)
	var edges []int
	for _, b := range all {
		for _, place := range []int{b.From, b.From + 1, b.From + b.Size - 1, b.From + b.Size} {
			if len(edges) == 0 || place > edges[len(edges)-1] {
				edges = append(edges, place)
			}
		}
	}
	for i, from := range edges {
		tryRead(t, f, from, 0, "")
		for _, to := range edges[i+1:] {
			tryAsTold(t, f, all, from, to-from)
		}
	}
}

// turned is the file with one byte changed.
func turned(file string, at int, by byte) string {
	b := []byte(file)
	b[at] ^= by
	return string(b)
}

func TestReadExample(t *testing.T) {
	file := pack(t, "abcabcabcabc", 6, 2)
	f := open(t, file)
	tryRead(t, f, 4, 4, "bcab")
	tryRead(t, f, 0, 12, "abcabcabcabc")
	g := open(t, turned(file, len(file)-1, 1))
	tryRead(t, g, 0, 6, "abcabc")
	tryDamage(t, g, 4, 4, 1, api.ErrSum)
}

// Every part: within a block, over several, from fresh blocks and others.
func TestReadEveryPart(t *testing.T) {
	data := "abcabcabcabcdefgabcdefgabcabcXYZaaaaaaaaaaaaaaXYZabc"
	for _, size := range []int{1, 2, 5, 7, 13, 51, 52, 53, 1024} {
		for _, every := range []int{1, 2, 3, 100} {
			f := open(t, pack(t, data, size, every))
			for from := range len(data) + 1 {
				for to := from; to <= len(data); to++ {
					tryRead(t, f, from, to-from, data[from:to])
				}
			}
		}
	}
}

func TestReadLong(t *testing.T) {
	for i, kinds := range []uint32{1, 2, 5, 256} {
		data := noise(uint32(i), kinds, 10000)
		data += data[:9000] + data[500:1500]
		for _, cut := range [][2]int{{1024, 1}, {1024, 100}, {1000, 3}, {77, 2}, {256, 7}} {
			f := open(t, pack(t, data, cut[0], cut[1]))
			tryRead(t, f, 0, len(data), data)
			for j := range 300 {
				from := j * 7919 % len(data)
				count := min(j*j%3000, len(data)-from)
				tryRead(t, f, from, count, data[from:from+count])
			}
			tryRead(t, f, len(data)-1, 1, data[len(data)-1:])
		}
	}
}

func TestReadManyBlocks(t *testing.T) {
	data := noise(9, 256, 5900)
	for _, every := range []int{1, 7, 100} {
		f := open(t, pack(t, data, 1, every))
		for from := range len(data) {
			count := min(1+from%3, len(data)-from)
			tryRead(t, f, from, count, data[from:from+count])
		}
	}
}

func TestReadErrRange(t *testing.T) {
	whole := "SK1" + block(1, 6, one) + block(0, 6, two)
	bad := "SK1" + block(1, 6, "") + block(0, 6, "")
	for _, file := range []string{"SK1", whole, bad} {
		f := open(t, file)
		n := f.Size()
		for _, far := range []int{1, 2, 1000, 1 << 31, 1 << 32, math.MaxInt - 20, math.MaxInt - 12, math.MaxInt - 11} {
			tryRange(t, f, n+far, 0)
			tryRange(t, f, 0, n+far)
			tryRange(t, f, n, far)
			tryRange(t, f, n/2, n-n/2+far)
			tryRange(t, f, n+far, n+far)
			tryRange(t, f, n+far, -n-far)
			tryRange(t, f, -far, n)
			tryRange(t, f, -far, 0)
			tryRange(t, f, -far, far)
			tryRange(t, f, -far, far+n)
			tryRange(t, f, 0, -far)
			tryRange(t, f, n, -far)
			tryRange(t, f, far, -far)
		}
		ends := []int{math.MinInt, math.MinInt + 1, math.MaxInt - 1, math.MaxInt}
		for _, a := range ends {
			tryRange(t, f, a, 0)
			tryRange(t, f, 0, a)
			tryRange(t, f, a, 1)
			tryRange(t, f, 1, a)
			for _, b := range ends {
				tryRange(t, f, a, b)
			}
		}
		tryRange(t, f, 1<<62, 1<<62)
		tryRange(t, f, 1<<63-1, 1)
	}
}

// A count of 0 needs no block, so no damage is told.
func TestReadNothing(t *testing.T) {
	tryRead(t, open(t, "SK1"), 0, 0, "")
	for _, file := range []string{"SK1" + block(1, 6, one) + block(0, 6, two), "SK1" + block(1, 6, "") + block(0, 6, ""), "SK1" + turned(block(1, 12, one), 5, 1)} {
		f := open(t, file)
		for from := range 13 {
			tryRead(t, f, from, 0, "")
		}
	}
}

// four is a file of four blocks of four bytes, the first and the third fresh.
var four = []string{block(1, 4, "\x03abcd"), block(0, 4, "\x80\x04\x00"), block(1, 4, "\x03wxyz"), block(0, 4, "\x80\x02\x00")}

const fourData = "abcdabcdwxyzyzyz"

// tryNeeded has block number of the four, which is bad, told by just those
// reads that need it.
func tryNeeded(t *testing.T, f *skipper.File, number int, why error) {
	t.Helper()
	for from := range 16 {
		for to := from + 1; to <= 16; to++ {
			fresh := from / 8 * 2
			if fresh <= number && (to-1)/4 >= number {
				tryDamage(t, f, from, to-from, number, why)
			} else {
				tryRead(t, f, from, to-from, fourData[from:to])
			}
		}
	}
}

func TestReadErrSum(t *testing.T) {
	at := 3
	for number, text := range four {
		for i := 5; i < len(text); i++ {
			for bit := range 8 {
				f := open(t, turned("SK1"+strings.Join(four, ""), at+i, 1<<bit))
				tryNeeded(t, f, number, api.ErrSum)
			}
		}
		at += len(text)
	}
}

// The two halves of a sum are below 65521, and in their order.
func TestReadErrSumHalves(t *testing.T) {
	sum := func(text string, bytes string) string { return text[:5] + bytes + text[9:] }
	right := block(1, 1, "\x00a")
	tryRead(t, open(t, "SK1"+sum(right, "\x62\x00\x63\x00")), 0, 1, "a")
	for _, bytes := range []string{"\x63\x00\x62\x00", "\x00\x63\x00\x62", "\x00\x62\x00\x63", "\x62\x00\x00\x00", "\x00\x00\x63\x00", "\x00\x00\x00\x00", "\x01\x00\x00\x00", "\x53\x00\x54\x00", "\x53\x00\x63\x00"} {
		tryDamage(t, open(t, "SK1"+sum(right, bytes)), 0, 1, 0, api.ErrSum)
	}
	// Of these the first half, taken modulo 65521, would be 0, and 7.
	low := block(1, 1, strings.Repeat("\xff", 256)+"\xf0")
	if low[5:7] != "\x00\x00" {
		t.Fatalf("the sum of 256 times 255, and 240, begins with %q", low[5:7])
	}
	tryDamage(t, open(t, "SK1"+low), 0, 1, 0, api.ErrToken)
	tryDamage(t, open(t, "SK1"+sum(low, "\xf1\xff"+low[7:9])), 0, 1, 0, api.ErrSum)
	seven := block(1, 1, strings.Repeat("\xff", 256)+"\xf7")
	tryDamage(t, open(t, "SK1"+seven), 0, 1, 0, api.ErrToken)
	tryDamage(t, open(t, "SK1"+sum(seven, "\xf8\xff"+seven[7:9])), 0, 1, 0, api.ErrSum)
}

// A sum that is wrong is told ahead of tokens that are.
func TestReadSumAheadOfTokens(t *testing.T) {
	for _, packed := range []string{"", "x", "\x80", "\x80\x00\x00", "\x80\xff\xff", "\x04abcde", "\x02abc"} {
		for number := range four {
			list := append([]string(nil), four...)
			list[number] = turned(block(four[number][0], 4, packed), 6, 1)
			tryNeeded(t, open(t, "SK1"+strings.Join(list, "")), number, api.ErrSum)
		}
	}
	// Bytes put in or cut off, with the header's length made right, but not the sum.
	for _, packed := range []string{"\x03abcd\x00", "\x03abc", "\x03abcdefgh", "\x03"} {
		list := append([]string(nil), four...)
		text := block(1, 4, packed)
		list[0] = text[:5] + four[0][5:9] + packed
		tryNeeded(t, open(t, "SK1"+strings.Join(list, "")), 0, api.ErrSum)
	}
}

// Packed bytes of a block of 4 that are good nowhere, with the right sum.
func TestReadErrToken(t *testing.T) {
	bad := []string{
		// no tokens
		"",
		// the last one is cut off
		"\x03", "\x03a", "\x03abc", "\x7fabcd", "\x04abcd", "\x80", "\x80\x01", "\x80\x04", "\x03abcd\x00", "\x03abcd\x80", "\x03abcd\x80\x01", "\x00a\x80\x01", "\x01ab\x01c", "\x00a\x02bc",
		// too few bytes
		"\x00a", "\x02abc", "\x00a\x01bc", "\x00a\x00b\x00c",
		// too many
		"\x04abcde", "\x03abcd\x00e", "\x05abcdef", "\x00a\x03bcde", "\x00a\x80\x01\x00", "\x03abcd\x80\x04\x00", "\x03abcd\x80\x01\x00", "\x7f" + strings.Repeat("a", 128), "\x02abc\xff\x01\x00",
		// a distance of 0
		"\x80\x00\x00", "\x81\x00\x00", "\x00a\x80\x00\x00", "\x03abcd\x80\x00\x00", "\xff\x00\x00", "\x80\x00\x00\x03abcd", "\x01ab\x80\x00\x00\x01cd",
		// a distance ahead of the file
		"\x80\xff\xff", "\x80\x00\x80", "\x80\x11\x00", "\x80\x00\x01", "\x80\x04\x01", "\x80\x09\x00",
		// bytes behind good tokens
		"\x03abcd\xff", "\x03abcd\x7f", "\x03abcdabcd",
	}
	for _, packed := range bad {
		for number := range four {
			list := append([]string(nil), four...)
			list[number] = block(four[number][0], 4, packed)
			tryNeeded(t, open(t, "SK1"+strings.Join(list, "")), number, api.ErrToken)
		}
	}
}

// A copy reaches back to the beginning of the last fresh block, no further,
// whatever is read along with it.
func TestReadReach(t *testing.T) {
	put := func(number int, fresh byte, packed string) *skipper.File {
		list := append([]string(nil), four...)
		list[number] = block(fresh, 4, packed)
		return open(t, "SK1"+strings.Join(list, ""))
	}
	for number, packed := range map[int][]string{
		0: {"\x80\x01\x00", "\x80\x04\x00"},
		1: {"\x80\x05\x00", "\x80\x06\x00", "\x80\x08\x00"},
		2: {"\x80\x01\x00", "\x80\x04\x00", "\x80\x08\x00"},
		3: {"\x80\x05\x00", "\x80\x08\x00", "\x80\x0c\x00"},
	} {
		for _, p := range packed {
			tryNeeded(t, put(number, four[number][0], p), number, api.ErrToken)
		}
	}
	tryRead(t, put(1, 0, "\x80\x04\x00"), 4, 4, "abcd")
	tryRead(t, put(3, 0, "\x80\x04\x00"), 12, 4, "wxyz")
	tryRead(t, put(3, 0, "\x80\x04\x00"), 0, 16, "abcdabcdwxyzwxyz")
	tryRead(t, put(2, 0, "\x80\x08\x00"), 8, 4, "abcd")
	tryRead(t, put(2, 0, "\x80\x05\x00"), 0, 12, "abcdabcddabc")
	// Within a block the reach grows with what is unpacked.
	for _, c := range []struct {
		packed string
		want   string
	}{
		{"\x00a\x80\x01\x00", "aaaaa"}, {"\x00a\x80\x02\x00", ""}, {"\x01ab\x80\x02\x00", "ababab"}, {"\x01ab\x80\x03\x00", ""},
		{"\x01ab\x00c\x80\x03\x00", "abcabca"}, {"\x00a\x81\x01\x00\x80\x06\x00", "aaaaaaaaaa"}, {"\x00a\x81\x01\x00\x80\x07\x00", ""},
	} {
		size := max(len(c.want), 5)
		if c.want == "" && c.packed[0] == 1 {
			size = 6
		}
		for _, ahead := range []string{"", four[0], four[0] + four[1]} {
			f := open(t, "SK1"+ahead+block(1, size, c.packed))
			from, number := f.Size()-size, len(f.Blocks())-1
			if c.want == "" {
				tryDamage(t, f, from, size, number, api.ErrToken)
				tryDamage(t, f, 0, f.Size(), number, api.ErrToken)
			} else {
				tryRead(t, f, from, size, c.want)
				tryRead(t, f, 0, f.Size(), fourData[:from]+c.want)
			}
		}
	}
}

// Tokens that are good, though Pack would not make them.
func TestReadGood(t *testing.T) {
	long := noise(5, 256, 1000)
	runs := func(text string, n int) string {
		packed := ""
		for ; text != ""; text = text[min(n, len(text)):] {
			packed += string([]byte{byte(min(n, len(text)) - 1)}) + text[:min(n, len(text))]
		}
		return packed
	}
	for _, c := range []struct {
		ahead  string // fresh, in runs
		packed string
		want   string
	}{
		{"abcd", "\x80\x04\x00", "abcd"}, {"abcd", "\x80\x01\x00", "dddd"}, {"abcd", "\x80\x02\x00", "cdcd"}, {"abcd", "\x80\x03\x00", "bcdb"},
		{"abcd", "\x84\x03\x00", "bcdbcdbc"}, {"abcd", "\x83\x04\x00", "abcdabc"},
		{"a", "\xff\x01\x00", strings.Repeat("a", 131)}, {"abc", "\xfe\x03\x00", strings.Repeat("abc", 50)[:130]},
		{"aaaaaaaa", "\x03aaaa", "aaaa"}, {"aaaaaaaa", "\x80\x08\x00", "aaaa"}, {"abcdabcd", "\x80\x08\x00", "abcd"},
		{"abcd", "\x00x\x80\x05\x00\x00y\x81\x06\x00", "xabcdyxabcd"},
		{"abcd", "\x80\x04\x00\x80\x08\x00\x80\x0c\x00\x80\x10\x00", "abcdabcdabcdabcd"},
		{"z", "\x7f" + distinct(0, 128), distinct(0, 128)}, {"z", "\x7f" + distinct(0, 128) + "\x7f" + distinct(128, 128), distinct(0, 256)},
		{"z", "\x00\x80\x00\xff\x00\x00", "\x80\xff\x00"},
		{long, "\x80\xff\x00", long[745:749]}, {long, "\x80\x00\x01", long[744:748]}, {long, "\x80\x01\x01", long[743:747]}, {long, "\xff\xe8\x03", long[:131]},
		{long, runs(long, 1), long}, {long, runs(long, 2), long}, {long, runs(long, 127), long}, {long, runs(long, 128), long},
	} {
		file := "SK1" + block(1, len(c.ahead), runs(c.ahead, 128)) + block(0, len(c.want), c.packed) + block(1, 1, "\x00!")
		f := open(t, file)
		n := len(c.ahead)
		tryRead(t, f, n, len(c.want), c.want)
		tryRead(t, f, 0, f.Size(), c.ahead+c.want+"!")
		tryRead(t, f, n+len(c.want)/2, 1, c.want[len(c.want)/2:][:1])
		tryRead(t, f, n+len(c.want)-1, 2, c.want[len(c.want)-1:]+"!")
	}
}

// A copy reaches over many blocks, as far as data goes.
func TestReadFar(t *testing.T) {
	file := "SK1" + block(1, 4, "\x03wxyz")
	data := "wxyz"
	for range 19 {
		file += block(0, 1024, "\xff\x01\x00\xff\x01\x00\xff\x01\x00\xff\x01\x00\xff\x01\x00\xff\x01\x00\xff\x01\x00\xe3\x01\x00\x03abcd")
		data += strings.Repeat(data[len(data)-1:], 1020) + "abcd"
	}
	n := len(data)
	distance := func(d int) string { return string([]byte{0x80, byte(d), byte(d >> 8)}) }
	f := open(t, file+block(0, 4, distance(n)))
	tryRead(t, f, n, 4, "wxyz")
	tryRead(t, f, 0, n+4, data+"wxyz")
	tryDamage(t, open(t, file+block(0, 4, distance(n+1))), n, 1, 20, api.ErrToken)
	tryDamage(t, open(t, file+block(0, 4, distance(65535))), n, 1, 20, api.ErrToken)
	tryDamage(t, open(t, file+block(1, 4, distance(n))), n, 1, 20, api.ErrToken)
	tryRead(t, open(t, file+block(0, 4, distance(19457))), n, 4, data[n-19457:][:4])
}

// Of several bad blocks the first one that is needed is told.
func TestReadFirstBad(t *testing.T) {
	good, token := "\x03abcd", "\x80\x00\x00"
	sum := func(fresh byte) string { return turned(block(fresh, 4, good), 7, 1) }
	f := open(t, "SK1"+block(1, 4, good)+block(0, 4, token)+sum(0)+sum(1)+block(0, 4, token)+block(1, 4, good)+block(0, 4, good)+sum(0)+block(0, 4, token)+block(1, 4, token)+block(1, 4, good))
	for _, c := range []struct {
		from, to int // blocks
		number   int
		why      error
	}{
		{0, 1, 1, api.ErrToken}, {1, 1, 1, api.ErrToken}, {2, 2, 1, api.ErrToken}, {0, 10, 1, api.ErrToken}, {2, 3, 1, api.ErrToken},
		{3, 3, 3, api.ErrSum}, {4, 4, 3, api.ErrSum}, {3, 10, 3, api.ErrSum}, {4, 6, 3, api.ErrSum},
		{5, 7, 7, api.ErrSum}, {6, 7, 7, api.ErrSum}, {7, 7, 7, api.ErrSum}, {8, 8, 7, api.ErrSum}, {8, 10, 7, api.ErrSum},
		{9, 9, 9, api.ErrToken}, {9, 10, 9, api.ErrToken},
	} {
		tryDamage(t, f, 4*c.from, 4*(c.to-c.from)+4, c.number, c.why)
		tryDamage(t, f, 4*c.from+3, 4*(c.to-c.from)+1, c.number, c.why)
		if c.to > c.from {
			tryDamage(t, f, 4*c.from+3, 4*(c.to-c.from)-2, c.number, c.why)
		}
	}
	tryRead(t, f, 0, 4, "abcd")
	tryRead(t, f, 20, 8, "abcdabcd")
	tryRead(t, f, 25, 3, "bcd")
	tryRead(t, f, 40, 4, "abcd")
}

// Packed bytes that would unpack to far more than a block may have.
func TestReadBurst(t *testing.T) {
	packed := "\x00a" + strings.Repeat("\xff\x01\x00", 21800)
	f := open(t, "SK1"+block(1, 1024, packed)+block(1, 1, "\x00a"))
	tryDamage(t, f, 0, 1, 0, api.ErrToken)
	tryDamage(t, f, 1023, 2, 0, api.ErrToken)
	tryRead(t, f, 1024, 1, "a")
	tryDamage(t, open(t, "SK1"+block(1, 1024, strings.Repeat("\x00a", 32700))), 5, 1, 0, api.ErrToken)
	tryRead(t, open(t, "SK1"+block(1, 1024, strings.Repeat("\x00a", 1024))), 5, 1, "a")
}

// All packed bytes of up to three, from bytes that matter, behind a block of two.
func TestReadSmall(t *testing.T) {
	bytes := []byte{0, 1, 2, 3, 4, 5, 127, 128, 129, 130, 255}
	var texts func(length int) []string
	texts = func(length int) []string {
		if length == 0 {
			return []string{""}
		}
		var list []string
		for _, text := range texts(length - 1) {
			for _, c := range bytes {
				list = append(list, text+string([]byte{c}))
			}
		}
		return list
	}
	for length := range 5 {
		for _, packed := range texts(length) {
			for _, size := range []int{1, 2, 4, 5, 6} {
				for _, fresh := range []byte{0, 1} {
					file := "SK1" + block(1, 2, "\x01xy") + block(fresh, size, packed)
					f, all := open(t, file), wantBlocks(file)
					tryAsTold(t, f, all, 2, size)
				}
			}
		}
	}
}

// drawn makes a file whose blocks are often, not always, good.
func drawn(seed uint32) string {
	dice := noise(seed, 256, 4000)
	next := func(n int) int {
		v := int(dice[0]) % n
		dice = dice[1:]
		return v
	}
	file := "SK1"
	ahead := ""
	for i := range 1 + next(9) {
		fresh := byte(0)
		if i == 0 || next(3) == 0 {
			fresh, ahead = 1, ""
		}
		packed, data := "", ahead
		for range 1 + next(4) {
			if len(data) == 0 || next(2) == 0 {
				run := noise(uint32(next(256)), 256, 1+next(6))
				packed, data = packed+string([]byte{byte(len(run) - 1)})+run, data+run
				continue
			}
			d, n := 1+next(len(data)), next(20)
			if next(30) == 0 {
				d = next(2) * (len(data) + next(3))
			}
			packed += string([]byte{byte(128 + n), byte(d), byte(d >> 8)})
			for range n + 4 {
				data += data[max(0, len(data)-max(1, d)):][:1]
			}
		}
		size := len(data) - len(ahead)
		if next(20) == 0 {
			size = max(1, size-1+next(3))
		}
		text := block(fresh, size, packed)
		if next(12) == 0 {
			text = turned(text, 5+next(len(text)-5), byte(1+next(255)))
		}
		file, ahead = file+text, data
	}
	return file
}

func TestReadDrawn(t *testing.T) {
	good, bad := 0, 0
	for seed := range uint32(1500) {
		file := drawn(seed)
		tryEdges(t, file)
		if wantCheck(wantBlocks(file)) == nil {
			good++
		} else {
			bad++
		}
	}
	if good < 100 || bad < 100 {
		t.Errorf("drawn files: %d good, %d bad", good, bad)
	}
}

// What is turned in a packed file is told by those who read it, by no others.
func TestReadTurned(t *testing.T) {
	file := pack(t, "abcabcabcabcdefgabcdefgabcabcXYZaaaaaaaaaaaaaaXYZabc", 9, 2)
	for _, b := range wantBlocks(file) {
		for at := b.At + 5; at < b.At+10; at++ {
			for _, by := range []byte{1, 2, 128, 255} {
				tryEdges(t, turned(file, at, by))
			}
		}
	}
}

// The same with the sum made right: the tokens are what is looked at.
func TestReadTurnedTokens(t *testing.T) {
	file := pack(t, "abcabcabcabcdefgabcdefgabcabcXYZaaaaaaaaaaaaaaXYZabc", 13, 2)
	list := wantBlocks(file)
	for i, b := range list {
		end := len(file)
		if i+1 < len(list) {
			end = list[i+1].At
		}
		fresh := file[b.At]
		packed := file[b.At+9 : end]
		for at := range len(packed) {
			for _, by := range []byte{1, 2, 4, 128, 255} {
				tryEdges(t, file[:b.At]+block(fresh, b.Size, turned(packed, at, by))+file[end:])
			}
			tryEdges(t, file[:b.At]+block(fresh, b.Size, packed[:at]+packed[at+1:])+file[end:])
			tryEdges(t, file[:b.At]+block(fresh, b.Size, packed[:at]+"\x00"+packed[at:])+file[end:])
		}
	}
}
