// Package lists has several numbers, and several texts, as bytes: what layers need so beside package bin, on which it stands.
package lists

import (
	"bastide/api"
	"bastide/bin"
)

// longestNumber is how many bytes a number has at most.
const longestNumber = 8

// Numbers are the bytes of numbers, one behind the other. It is for such as may be: of one that bin refuses there are none.
func Numbers(l ...int) []byte {
	var out []byte
	for _, n := range l {
		b, _ := bin.Num(n)
		out = append(out, b...)
	}
	return out
}

// TakeNumbers is what Numbers made bytes of; false, unless they are numbers alone.
func TakeNumbers(b []byte) ([]int, bool) {
	var l []int
	for len(b) > 0 {
		near := ahead(b, longestNumber)
		n, left, e := bin.TakeNum(near)
		if e != api.OK {
			return nil, false
		}
		l = append(l, n)
		b = b[len(near)-len(left):]
	}
	return l, true
}

// Texts are the bytes of texts, one behind the other. Likewise.
func Texts(l ...[]byte) []byte {
	var out []byte
	for _, s := range l {
		b, _ := bin.Str(s)
		out = append(out, b...)
	}
	return out
}

// TakeTexts is so many texts, each of at most so many bytes, that bytes are, and nothing behind them.
func TakeTexts(b []byte, many, most int) ([][]byte, api.Errno) {
	var l [][]byte
	for range many {
		near := ahead(b, longestNumber+min(max(most, 0), api.MaxBytes))
		s, left, e := bin.TakeStr(near, most)
		if e != api.OK {
			return nil, e
		}
		l = append(l, s)
		b = b[len(near)-len(left):]
	}
	if len(b) > 0 {
		return nil, api.ErrSyntax
	}
	return l, api.OK
}

// ahead is no more of bytes than the next thing may have, as bin copies what it leaves.
func ahead(b []byte, most int) []byte {
	return b[:min(len(b), most)]
}
