package header

import (
	"testing"

	"skipper/api"
)

func TestWrittenAndRead(t *testing.T) {
	for _, h := range []Header{
		{true, 1, 0, 1}, {false, 1024, 65535, 0xffffffff}, {true, 256, 255, 0x01020304}, {false, 0x0102, 0x0304, 0xf0e0d0c0},
	} {
		text := string(h.AppendTo(nil))
		if got, err := Read(text + "more"); len(text) != Length || got != h || err != nil {
			t.Errorf("%q: %v, %v, want %v", text, got, err, h)
		}
	}
	if got, want := string(Header{true, 0x0102, 0x0304, 0x05060708}.AppendTo([]byte("ahead"))), "ahead\x01\x02\x01\x04\x03\x08\x07\x06\x05"; got != want {
		t.Errorf("%q, want %q", got, want)
	}
}

func TestReadErrors(t *testing.T) {
	for text, want := range map[string]error{
		"": api.ErrEnd, "\x01\x01\x00\x00\x00\x01\x00\x00": api.ErrEnd, "\x02\x00\x00\x00\x00\x00\x00\x00": api.ErrEnd,
		"\x02\x01\x00\x00\x00\x01\x00\x00\x00": api.ErrHeader, "\x01\x00\x00\x00\x00\x01\x00\x00\x00": api.ErrHeader,
		"\x01\x01\x04\x00\x00\x01\x00\x00\x00": api.ErrHeader,
	} {
		if h, err := Read(text); err != want || h != (Header{}) {
			t.Errorf("%q: %v, %v, want %v", text, h, err, want)
		}
	}
}

func TestSum(t *testing.T) {
	high := make([]byte, 1024)
	for i := range high {
		high[i] = 255
	}
	for _, c := range []struct {
		packed []byte
		want   uint32
	}{
		{nil, 1}, {[]byte{0}, 65536 + 1}, {[]byte{2, 97, 98, 99, 133, 3, 0}, 1894*65536 + 433},
		// 1 + 1024 times 255 is 261121, and 1024 + 255 times (1024 times 1025 / 2) is 133825024.
		{high, 133825024%65521*65536 + 261121%65521},
	} {
		if h := Of(true, 1, c.packed); h.Sum != c.want || h.Packed != len(c.packed) {
			t.Errorf("of %d bytes: %v, want the sum %d", len(c.packed), h, c.want)
		}
	}
}
