package tokens

import (
	"strconv"

	"skipper/api"
)

// fault tells from which packed byte on there are no good tokens.
type fault struct{ at int }

// Error tells the place.
func (f *fault) Error() string {
	return api.ErrToken.Error() + " at packed byte " + strconv.Itoa(f.at)
}

// Unwrap tells that it is the tokens that are wrong.
func (f *fault) Unwrap() error { return api.ErrToken }

// token is a run, or, if it has a distance, a copy.
type token struct {
	run   string
	back  int // how far back a copy reaches
	count int // how many bytes it unpacks to
	taken int // how many packed bytes it has
}

// Unpack unpacks a block of that size behind data. Copies reach back to the
// place reach, where the last fresh block begins. If the packed bytes are not
// good, the error wraps ErrToken.
func Unpack(data []byte, reach int, packed string, size int) ([]byte, error) {
	end := len(data) + size
	at := 0
tokens:
	for at < len(packed) {
		t, whole := read(packed[at:])
		switch {
		case !whole, t.count > end-len(data), t.back > len(data)-reach:
			break tokens
		case t.back == 0:
			data = append(data, t.run...)
			at += t.taken
			continue tokens
		}
		// One by one, because a copy may run into what it has just made.
		for range t.count {
			data = append(data, data[len(data)-t.back])
		}
		at += t.taken
	}
	if at < len(packed) || len(data) < end {
		return nil, &fault{at: at}
	}
	return data, nil
}

// read reads the token with which rest begins, if it is whole and, as a copy,
// has a distance.
func read(rest string) (t token, ok bool) {
	c := int(rest[0])
	if c < copyMark {
		return readRun(rest, c+1)
	}
	return readCopy(rest, c-copyMark+api.MinCopy)
}

func readRun(rest string, count int) (t token, ok bool) {
	taken := 1 + count
	if taken > len(rest) {
		return token{}, false
	}
	return token{run: rest[1:taken], count: count, taken: taken}, true
}

func readCopy(rest string, count int) (t token, ok bool) {
	const taken = 3
	if taken > len(rest) {
		return token{}, false
	}
	back := int(rest[1]) | int(rest[2])<<8
	return token{back: back, count: count, taken: taken}, back > 0
}
