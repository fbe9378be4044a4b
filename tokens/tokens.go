// Package tokens packs the data of a block into runs and copies, and unpacks them.
package tokens

import "skipper/api"

// copyMark is the lowest byte with which a copy begins.
const copyMark = 128

// Pack packs the bytes of data between from and to, which are one block.
// Copies reach back to the place reach, where the last fresh block begins.
func Pack(data string, reach, from, to int) []byte {
	var packed []byte
	run := from // a run is written only when it is known where it ends
	for place := from; place < to; {
		back, count := longest(data, reach, place, to)
		if count < api.MinCopy {
			place++
			continue
		}
		packed = appendRuns(packed, data[run:place])
		packed = appendCopy(packed, back, count)
		place += count
		run = place
	}
	return appendRuns(packed, data[run:to])
}

// longest finds the place from which the most bytes can be copied: how far it
// is back, and how many bytes they are.
func longest(data string, reach, place, to int) (back, count int) {
	most := min(to-place, api.MaxCopy)
	farthest := min(place-reach, api.MaxBack)
	// From the nearest place outward, so that of equals the nearest stays.
	for d := 1; d <= farthest && count < most; d++ {
		if n := same(data, place-d, place, most); n > count {
			back, count = d, n
		}
	}
	return back, count
}

// same counts the bytes that are the same from both places on, up to most.
func same(data string, earlier, place, most int) int {
	n := 0
	for n < most && data[earlier+n] == data[place+n] {
		n++
	}
	return n
}

func appendRuns(packed []byte, plain string) []byte {
	for len(plain) > 0 {
		n := min(len(plain), api.MaxRun)
		packed = append(packed, byte(n-1))
		packed = append(packed, plain[:n]...)
		plain = plain[n:]
	}
	return packed
}

func appendCopy(packed []byte, back, count int) []byte {
	return append(packed, byte(copyMark+count-api.MinCopy), byte(back), byte(back>>8))
}
