package tokens

import (
	"errors"
	"testing"

	"skipper/api"
)

func TestUnpackBehind(t *testing.T) {
	for _, c := range []struct {
		data   string
		reach  int
		packed string
		size   int
		want   string
	}{
		{"", 0, "", 0, ""}, {"abcd", 0, "", 0, "abcd"}, {"", 0, "\x01ab", 2, "ab"}, {"abcd", 4, "\x01ab", 2, "abcdab"},
		{"abcd", 0, "\x80\x04\x00", 4, "abcdabcd"}, {"abcd", 2, "\x80\x02\x00", 4, "abcdcdcd"}, {"abcd", 4, "\x00x\x80\x01\x00", 5, "abcdxxxxx"},
	} {
		got, err := Unpack([]byte(c.data), c.reach, c.packed, c.size)
		if err != nil || string(got) != c.want {
			t.Errorf("%q behind %q: %q, %v, want %q", c.packed, c.data, got, err, c.want)
		}
	}
}

// The error wraps ErrToken, and tells the packed byte from which on it applies.
func TestUnpackNotGood(t *testing.T) {
	for _, c := range []struct {
		reach  int
		packed string
		at     string
	}{
		{0, "", "0"}, {0, "\x04abcde", "0"}, {0, "\x01ab\x01", "3"}, {0, "\x01ab", "3"}, {0, "\x03abcd\x80", "5"},
		{0, "\x80\x00\x00", "0"}, {0, "\x80\x05\x00", "0"}, {1, "\x80\x04\x00", "0"}, {4, "\x80\x01\x00", "0"}, {0, "\x81\x04\x00", "0"},
	} {
		got, err := Unpack([]byte("abcd"), c.reach, c.packed, 4)
		if got != nil || !errors.Is(err, api.ErrToken) {
			t.Errorf("%q: %q, %v", c.packed, got, err)
			continue
		}
		if want := "skipper: token at packed byte " + c.at; err.Error() != want {
			t.Errorf("%q: %q, want %q", c.packed, err, want)
		}
	}
}
