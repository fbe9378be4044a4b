package tokens

import (
	"strings"
	"testing"

	"skipper/api"
)

// No data that is packed is so long that MaxBack counts; what packs a block
// keeps to it all the same.
func TestPackMaxBack(t *testing.T) {
	for _, c := range []struct {
		gap  int
		want string
	}{
		{api.MaxBack - 4, "\x80\xff\xff"},
		{api.MaxBack - 3, "\x03wxyz"},
	} {
		data := "wxyz" + strings.Repeat("a", c.gap) + "wxyz"
		if got := Pack(data, 0, len(data)-4, len(data)); string(got) != c.want {
			t.Errorf("a gap of %d: %q, want %q", c.gap, got, c.want)
		}
	}
}

func TestPackReach(t *testing.T) {
	data := "abcdefgabcdefg!"
	for reach, want := range []string{"\x83\x07\x00", "\x00a\x82\x07\x00", "\x01ab\x81\x07\x00", "\x02abc\x80\x07\x00", "\x06abcdefg"} {
		if got := Pack(data, reach, 7, 14); string(got) != want {
			t.Errorf("reach %d: %q, want %q", reach, got, want)
		}
	}
}

func TestPackNothing(t *testing.T) {
	if got := Pack("abcd", 0, 4, 4); len(got) != 0 {
		t.Errorf("of no bytes: %q", got)
	}
}
