package promises

import (
	"errors"
	"math"
	"slices"
	"strings"
	"testing"

	"skipper/api"
	"skipper/skipper"
)

func TestPackNeverPanics(t *testing.T) {
	numbers := []int{math.MinInt, math.MinInt + 1, -65536, -1, 0, 1, 2, 99, 100, 101, 1023, 1024, 1025, 65535, 65536, 1 << 31, 1 << 32, math.MaxInt - 1, math.MaxInt}
	texts := []string{"", "\x00", "a", "\xff\xfe", strings.Repeat("a", 1024), strings.Repeat("\xff", 20000), strings.Repeat("x", 20001), strings.Repeat("ab", 100000)}
	for _, data := range texts {
		for _, size := range numbers {
			for _, every := range numbers {
				file, err := skipper.Pack(data, size, every)
				wrong := len(data) > 20000 || size < 1 || size > 1024 || every < 1 || every > 100
				if err != nil && (err != api.ErrSize || file != "") || err == nil && (wrong || !strings.HasPrefix(file, "SK1")) {
					t.Errorf("P1: Pack of %d bytes, %d, %d = %d bytes, %v", len(data), size, every, len(file), err)
				}
			}
		}
	}
}

func TestOpenNeverPanics(t *testing.T) {
	errs := []error{api.ErrSize, api.ErrMagic, api.ErrHeader, api.ErrEnd}
	for seed := range uint32(3000) {
		for _, start := range []string{"", "SK1", "SK1" + block(1, 6, one), "SK1\x01\x06\x00", "SK1\x01\x06\x00\x00\x00"} {
			file := start + noise(seed, []uint32{2, 3, 256}[seed%3], int(seed%60))
			f, err := skipper.Open(file)
			if err != nil && (f != nil || !slices.Contains(errs, err)) || err == nil && f == nil {
				t.Fatalf("P1: Open(%q) = a file: %v, %v", file, f != nil, err)
			}
			if f != nil && (f.Size() < 0 || f.Size() < len(f.Blocks())) {
				t.Fatalf("P1: Open(%q): Size %d, Blocks %v", file, f.Size(), f.Blocks())
			}
		}
	}
}

func TestReadNeverPanics(t *testing.T) {
	numbers := []int{math.MinInt, math.MinInt + 1, -20001, -2, -1, 0, 1, 2, 3, 7, 19999, 20000, 20001, 1 << 31, 1 << 32, 1 << 62, math.MaxInt - 1, math.MaxInt}
	for seed := range uint32(3000) {
		file := "SK1"
		for i := range seed % 4 {
			packed := noise(seed+i, []uint32{3, 140, 256}[seed%3], int((seed+i)%12))
			file += block(byte(1-i%2), 1+int(seed%8), packed)
		}
		f := open(t, file)
		for _, from := range numbers {
			for _, count := range numbers {
				var d *api.Damage
				data, err := f.ReadAt(from, count)
				here := from >= 0 && count >= 0 && from <= f.Size() && count <= f.Size()-from
				if err != nil && data != "" || !here && err != api.ErrRange || here && err != nil && !errors.As(err, &d) || err == nil && len(data) != count {
					t.Fatalf("P1: %q: ReadAt(%d, %d) = %q, %v", file, from, count, data, err)
				}
			}
		}
		if list := f.Check(); !slices.IsSorted(list) || len(list) > len(f.Blocks()) {
			t.Fatalf("P1: %q: Check() = %v", file, list)
		}
		for _, from := range numbers {
			list := taken(f.Chunks(from), -1)
			if len(list) > len(f.Blocks()) || len(list) > 0 && (from < 0 || from >= f.Size()) {
				t.Fatalf("P1: %q: Chunks(%d) = %v", file, from, list)
			}
		}
	}
}

// Just the errors of package api are answered, not ones that wrap them.
func TestErrorsAsTheyAre(t *testing.T) {
	_, packed := skipper.Pack("", 0, 0)
	_, long := skipper.Open(strings.Repeat("x", 65537))
	_, magic := skipper.Open("")
	_, end := skipper.Open("SK1\x01")
	_, head := skipper.Open("SK1" + block(2, 1, ""))
	_, span := open(t, "SK1"+block(1, 1, "")).ReadAt(0, 2)
	for i, pair := range [][2]error{{packed, api.ErrSize}, {long, api.ErrSize}, {magic, api.ErrMagic}, {end, api.ErrEnd}, {head, api.ErrHeader}, {span, api.ErrRange}} {
		var d *api.Damage
		if pair[0] != pair[1] || errors.As(pair[0], &d) {
			t.Errorf("P1: %d: %v, want %v", i, pair[0], pair[1])
		}
	}
}

// scribble writes over a list and all its spare room.
func scribble(list []api.Block) {
	list = list[:cap(list)]
	for i := range list {
		list[i] = api.Block{From: -1, Size: -2, At: -3, Fresh: !list[i].Fresh}
	}
}

func TestBlocksAreNew(t *testing.T) {
	for count := range 40 {
		file := "SK1"
		for i := range count {
			file += block(byte((i+1)%2), i+1, "xyz")
		}
		want, size, _ := wantOpened(file)
		f, g := open(t, file), open(t, file)
		kept := f.Blocks()
		scribble(f.Blocks())
		scribble(g.Blocks())
		first, second := append(f.Blocks(), api.Block{From: 1}), append(f.Blocks(), api.Block{From: 2})
		if first[count].From != 1 || second[count].From != 2 || !slices.Equal(first[:count], want) || !slices.Equal(second[:count], want) {
			t.Errorf("P1: %d blocks: two answers share their spare room: %v, %v", count, first, second)
		}
		spare := f.Blocks()
		spare = spare[:cap(spare)]
		before := slices.Clone(spare)
		scribble(f.Blocks())
		if !slices.Equal(spare, before) {
			t.Errorf("P1: %d blocks: two answers share memory", count)
		}
		for _, list := range [][]api.Block{kept, f.Blocks(), g.Blocks(), open(t, file).Blocks()} {
			if !slices.Equal(list, want) {
				t.Errorf("P1: %d blocks: an answer was changed from outside: %v, want %v", count, list, want)
			}
		}
		if f.Size() != size || g.Size() != size {
			t.Errorf("P1: %d blocks: Size %d and %d, want %d", count, f.Size(), g.Size(), size)
		}
	}
}

func TestNumbersAreNew(t *testing.T) {
	for count := 1; count < 40; count++ {
		kinds := "S" + strings.Repeat("g", count-1)
		var want []int
		for i := range count {
			want = append(want, i)
		}
		f, g := open(t, fileOf(kinds)), open(t, fileOf(kinds))
		kept := f.Check()
		other := f.Check()
		other = other[:cap(other)]
		for i := range other {
			other[i] = -9
		}
		first, second := append(f.Check(), 1), append(f.Check(), 2)
		if first[count] != 1 || second[count] != 2 || slices.Contains(kept[:cap(kept)], -9) {
			t.Errorf("P1: %d numbers: two answers share memory: %v, %v, %v", count, first, second, kept[:cap(kept)])
		}
		for _, list := range [][]int{kept, f.Check(), g.Check()} {
			if !slices.Equal(list, want) {
				t.Errorf("P1: %d numbers: an answer was changed from outside: %v", count, list)
			}
		}
	}
}

func TestDamageIsNew(t *testing.T) {
	f, g := open(t, fileOf("GsGt")), open(t, fileOf("GsGt"))
	for _, h := range []*skipper.File{f, g, f} {
		for i, why := range []error{api.ErrSum, api.ErrToken} {
			_, err := h.ReadAt(8*i+4, 4)
			var d *api.Damage
			if !errors.As(err, &d) {
				t.Fatalf("P1: %v is no damage", err)
			}
			d.Block, d.Err = 77, api.ErrRange
			tryDamage(t, f, 8*i+4, 4, 2*i+1, why)
			tryDamage(t, g, 8*i+4, 4, 2*i+1, why)
		}
	}
	if list := f.Check(); !slices.Equal(list, []int{1, 3}) {
		t.Errorf("P1: Check() = %v", list)
	}
}

// What is asked while chunks are gone through changes none of them, nor do
// they change what is answered.
func TestAskedWithinChunks(t *testing.T) {
	file := fileOf("GggGgtG")
	f, g, told := open(t, file), open(t, fileOf("Sg")), wantBlocks(file)
	var got []chunk
	for number, data := range f.Chunks(1) {
		got = append(got, chunk{number, data})
		scribble(f.Blocks())
		if list := f.Check(); !slices.Equal(list, []int{5}) {
			t.Errorf("P1: Check() within chunks = %v", list)
		}
		tryRead(t, f, 4*number, 4, "abcd")
		tryDamage(t, f, 4*number, 24-4*number, 5, api.ErrToken)
		tryDamage(t, g, 4, 4, 0, api.ErrSum)
		tryChunks(t, g, 0)
		tryChunks(t, f, 24, chunk{6, "abcd"})
	}
	if !slices.Equal(got, wantChunks(told, 1)) || len(got) != 5 {
		t.Errorf("P1: Chunks(1), others asked within: %v", got)
	}
}

// One who leaves by a panic leaves the file as it was, and gets just this panic.
func TestChunksLeftByPanic(t *testing.T) {
	f := open(t, "SK1"+strings.Join(four, ""))
	all := f.Chunks(6)
	for range 2 {
		func() {
			defer func() {
				if told := recover(); told != "enough" {
					t.Errorf("P1: %v", told)
				}
			}()
			for number := range all {
				if number == 2 {
					panic("enough")
				}
			}
		}()
		tryChunks(t, f, 6, chunk{1, "cd"}, chunk{2, "wxyz"}, chunk{3, "yzyz"})
	}
}

// A file answers the same, whatever was asked of it, or of others, ahead.
func TestReadAgain(t *testing.T) {
	var files []*skipper.File
	var tolds [][]told
	for seed := range uint32(60) {
		files = append(files, open(t, drawn(seed)))
		tolds = append(tolds, wantBlocks(drawn(seed)))
	}
	for ask := range 6000 {
		i := ask * 7919 % len(files)
		f, all := files[i], tolds[i]
		from := ask * 31 % f.Size()
		switch count := 1 + ask*17%(f.Size()-from); ask % 7 {
		case 0:
			if got, want := f.Check(), wantCheck(all); !slices.Equal(got, want) {
				t.Errorf("P1: Check() = %v, want %v", got, want)
			}
		case 1:
			tryRange(t, f, from, f.Size()-from+1)
		case 2:
			tryRead(t, f, from, 0, "")
		case 3:
			tryChunks(t, f, from, wantChunks(all, from)...)
		case 4:
			taken(f.Chunks(from), 1+ask%3)
		default:
			tryAsTold(t, f, all, from, count)
		}
	}
}

func TestFilesKnowNothingOfOneAnother(t *testing.T) {
	texts := []string{"SK1", "SK1" + block(1, 6, one), "SK1" + block(1, 6, one) + block(0, 6, two), "SK1" + block(1, 9, one) + block(1, 1024, two) + block(0, 3, "")}
	var files []*skipper.File
	for _, text := range texts {
		files = append(files, open(t, text))
		if f, err := skipper.Open(text + "x"); f != nil || err != api.ErrEnd {
			t.Errorf("P1: Open(%q) = a file: %v, %v", text+"x", f != nil, err)
		}
	}
	for range 2 {
		for i, f := range files {
			want, size, _ := wantOpened(texts[i])
			if f.Size() != size || !slices.Equal(f.Blocks(), want) {
				t.Errorf("P1: file %d: Size %d, Blocks %v, want %d, %v", i, f.Size(), f.Blocks(), size, want)
			}
		}
		slices.Reverse(files)
		slices.Reverse(texts)
	}
}

// What was asked ahead changes no answer.
func TestPackAgain(t *testing.T) {
	asks := []packCase{{"abcabcabcabc", 12, 1, ""}, {"abcabcabcabc", 6, 2, ""}, {"", 5, 1, ""}, {strings.Repeat("xy", 900), 700, 2, ""}, {"abcdabcd", 4, 100, ""}}
	for range 3 {
		for _, c := range asks {
			if got := pack(t, c.data, c.size, c.every); got != wantPacked(c.data, c.size, c.every) {
				t.Errorf("P1: Pack(%.30q, %d, %d) = %.100q", c.data, c.size, c.every, got)
			}
			if got, err := skipper.Pack(c.data, 1025, c.every); got != "" || err != api.ErrSize {
				t.Errorf("P1: Pack(%.30q, 1025, %d) = %q, %v", c.data, c.every, got, err)
			}
		}
		slices.Reverse(asks)
	}
}

// Nothing that is asked changes what another call answers, at the same time too.
func TestAskedByManyAtOnce(t *testing.T) {
	f := open(t, "SK1"+block(1, 6, one)+block(0, 6, two)+block(0, 1, "x")+block(1, 1, "\x00x"))
	want, chunks := f.Blocks(), f.Chunks(4)
	done := make(chan bool)
	for range 8 {
		go func() {
			ok := true
			for range 200 {
				list := f.Blocks()
				ok = ok && f.Size() == 14 && slices.Equal(list, want)
				scribble(list)
				data, err := f.ReadAt(4, 4)
				ok = ok && data == "bcab" && err == nil
				data, err = f.ReadAt(4, 9)
				ok = ok && data == "" && errors.Is(err, api.ErrToken)
				bad := f.Check()
				ok = ok && slices.Equal(bad, []int{2})
				bad[0] = 9
				ok = ok && slices.Equal(taken(chunks, -1), []chunk{{0, "bc"}, {1, "abcabc"}})
				ok = ok && slices.Equal(taken(f.Chunks(13), -1), []chunk{{3, "x"}})
			}
			done <- ok
		}()
	}
	for range 8 {
		if !<-done {
			t.Error("P1: an answer was changed by one who asked at the same time")
		}
	}
}
