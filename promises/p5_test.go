package promises

import (
	"slices"
	"strings"
	"testing"
)

func tryCheck(t *testing.T, file string, want ...int) {
	t.Helper()
	f := open(t, file)
	for range 2 {
		if got := f.Check(); !slices.Equal(got, want) {
			t.Errorf("P5: Check of %.100q = %v, want %v", file, got, want)
		}
	}
}

func TestCheckExample(t *testing.T) {
	file := pack(t, "abcabcabcabc", 6, 2)
	tryCheck(t, file)
	tryCheck(t, turned(file, len(file)-1, 1), 1)
}

func TestCheckGood(t *testing.T) {
	tryCheck(t, "SK1")
	tryCheck(t, "SK1"+block(1, 6, one)+block(0, 6, two))
	tryCheck(t, "SK1"+strings.Join(four, ""))
	for _, cut := range [][3]int{{0, 5, 1}, {1, 1, 1}, {5900, 1, 9}, {20000, 1024, 100}, {20000, 1000, 1}, {20000, 50, 3}} {
		for _, kinds := range []uint32{1, 3, 256} {
			tryCheck(t, pack(t, noise(7, kinds, cut[0]), cut[1], cut[2]))
		}
	}
}

// Kinds of blocks of four bytes: g is good, s has a wrong sum, t wrong tokens,
// b both; a great letter is a fresh one.
func fileOf(kinds string) string {
	file := "SK1"
	for _, k := range kinds {
		fresh := byte(0)
		if k < 'a' {
			fresh = 1
		}
		switch k {
		case 'g', 'G':
			file += block(fresh, 4, "\x03abcd")
		case 's', 'S':
			file += turned(block(fresh, 4, "\x03abcd"), 5, 1)
		case 't', 'T':
			file += block(fresh, 4, "\x02abc")
		case 'b', 'B':
			file += turned(block(fresh, 4, "\x02abc"), 5, 1)
		}
	}
	return file
}

func TestCheckBad(t *testing.T) {
	for _, c := range []struct {
		kinds string
		want  []int
	}{
		{"S", []int{0}}, {"T", []int{0}}, {"B", []int{0}}, {"Gs", []int{1}}, {"Gt", []int{1}}, {"Gb", []int{1}},
		// Those that are not fresh follow a bad one, up to the next fresh one.
		{"Sg", []int{0, 1}}, {"Tg", []int{0, 1}}, {"SG", []int{0}}, {"TG", []int{0}}, {"SGg", []int{0}}, {"SggGg", []int{0, 1, 2}},
		{"GsgG", []int{1, 2}}, {"GtggGgg", []int{1, 2, 3}}, {"GgsGg", []int{2}}, {"GgtGg", []int{2}}, {"GggGsgGg", []int{4, 5}},
		// Each once, those that follow being bad too.
		{"Ss", []int{0, 1}}, {"St", []int{0, 1}}, {"Ts", []int{0, 1}}, {"GststgGs", []int{1, 2, 3, 4, 5, 7}}, {"Bbb", []int{0, 1, 2}},
		{"SgsgG", []int{0, 1, 2, 3}}, {"TgtG", []int{0, 1, 2}},
		// Each part by itself.
		{"SSS", []int{0, 1, 2}}, {"SGS", []int{0, 2}}, {"GTG", []int{1}}, {"GGT", []int{2}}, {"GSgTgGgtgG", []int{1, 2, 3, 4, 7, 8}},
		{"STSTST", []int{0, 1, 2, 3, 4, 5}}, {"GgGgGgs", []int{6}}, {"GgGgGgS", []int{6}},
		{"SGggggggggggg", []int{0}}, {"Sgggggggggggg", []int{0, 1, 2, 3, 4, 5, 6, 7, 8, 9, 10, 11, 12}},
	} {
		tryCheck(t, fileOf(c.kinds), c.want...)
	}
}

// All files of up to five blocks.
func TestCheckKinds(t *testing.T) {
	var try func(kinds string)
	try = func(kinds string) {
		var want []int
		lost := false
		for i, k := range kinds {
			lost = lost && k >= 'a' || !strings.ContainsRune("gG", k)
			if lost {
				want = append(want, i)
			}
		}
		tryCheck(t, fileOf(kinds), want...)
		if len(kinds) == 5 {
			return
		}
		for _, k := range "gstGST" {
			try(kinds + string(k))
		}
	}
	for _, k := range "GST" {
		try(string(k))
	}
}

// Why a block is bad does not matter to Check: each way counts.
func TestCheckTokens(t *testing.T) {
	for _, packed := range []string{"", "\x03", "\x03abc", "\x02abc", "\x04abcde", "\x03abcd\x00", "\x80", "\x80\x04", "\x80\x00\x00", "\x80\x00\x00\x03abcd", "\x80\x09\x00", "\x81\x04\x00", "\x80\x04\x00\x80"} {
		tryCheck(t, "SK1"+four[0]+block(0, 4, packed)+four[2]+four[3], 1)
		tryCheck(t, "SK1"+four[0]+four[1]+block(1, 4, packed)+four[3], 2, 3)
	}
	// What is good behind one block is not behind another.
	tryCheck(t, "SK1"+four[0]+block(0, 4, "\x80\x08\x00"), 1)
	tryCheck(t, "SK1"+four[0]+four[1]+block(0, 4, "\x80\x08\x00"))
	tryCheck(t, "SK1"+four[0]+four[2]+block(0, 4, "\x80\x08\x00"), 2)
	tryCheck(t, "SK1"+four[0]+four[1]+block(1, 4, "\x80\x08\x00"), 2)
	tryCheck(t, "SK1"+four[0]+four[2]+block(0, 4, "\x80\x05\x00")+block(0, 4, "\x03abcd")+block(1, 4, "\x03abcd"), 2, 3)
}

func TestCheckMany(t *testing.T) {
	var want []int
	for i := range 4000 {
		if slices.Contains([]int{3, 4, 7, 8, 9}, i%10) {
			want = append(want, i)
		}
	}
	tryCheck(t, fileOf(strings.Repeat("GggSgGgsgg", 400)), want...)
}

func TestCheckDrawn(t *testing.T) {
	for seed := range uint32(3000) {
		file := drawn(seed)
		tryCheck(t, file, wantCheck(wantBlocks(file))...)
	}
}

// What Check tells is just what ReadAt cannot read.
func TestCheckAsRead(t *testing.T) {
	for seed := range uint32(500) {
		f := open(t, drawn(seed))
		bad := f.Check()
		for i, b := range f.Blocks() {
			if _, err := f.ReadAt(b.From, b.Size); (err != nil) != slices.Contains(bad, i) {
				t.Errorf("P5: seed %d: Check %v, ReadAt of block %d: %v", seed, bad, i, err)
			}
		}
	}
}
