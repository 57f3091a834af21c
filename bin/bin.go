// Package bin is layer 1: see shared/doc/01-bin.md.
package bin

import (
	"bytes"
	"math/bits"

	"bastide/api"
)

// mostBytes is how many bytes MaxNumber has behind the one that counts them.
const mostBytes = 7

// Num is a number's bytes: how many follow, then these, the highest first, no 0 ahead.
func Num(n int) ([]byte, api.Errno) {
	if n < 0 || n > api.MaxNumber {
		return nil, api.ErrRange
	}
	return written(n), api.OK
}

// Str is a text's bytes behind how many they are.
func Str(b []byte) ([]byte, api.Errno) {
	if len(b) > api.MaxBytes {
		return nil, api.ErrLimit
	}
	return Join(written(len(b)), b), api.OK
}

// TakeNum takes a number off the beginning of bytes: it, and what is left.
func TakeNum(b []byte) (n int, rest []byte, e api.Errno) {
	n, used, e := number(b)
	if e != api.OK {
		return 0, nil, e
	}
	return n, bytes.Clone(b[used:]), api.OK
}

// TakeStr takes a text of at most so many bytes off the beginning: it, and what is left.
func TakeStr(b []byte, most int) (s, rest []byte, e api.Errno) {
	if most < 0 {
		return nil, nil, api.ErrArg
	}
	n, used, e := number(b)
	if e != api.OK {
		return nil, nil, e
	}
	if n > most || n > api.MaxBytes {
		return nil, nil, api.ErrLimit
	}
	return TakeFix(b[used:], n)
}

// TakeFix takes the first n bytes off: these, and what is left.
func TakeFix(b []byte, n int) (s, rest []byte, e api.Errno) {
	if n < 0 {
		return nil, nil, api.ErrArg
	}
	if n > len(b) {
		return nil, nil, api.ErrTrunc
	}
	return bytes.Clone(b[:n]), bytes.Clone(b[n:]), api.OK
}

// Join is bytes one behind the other.
func Join(l ...[]byte) []byte {
	size := 0
	for _, b := range l {
		size += len(b)
	}
	out := make([]byte, 0, size)
	for _, b := range l {
		out = append(out, b...)
	}
	return out
}

// written is the bytes of what is known to be a number.
func written(n int) []byte {
	size := (bits.Len(uint(n)) + 7) / 8
	out := make([]byte, 1+size)
	out[0] = byte(size)
	for i := range size {
		out[size-i] = byte(n >> (8 * i))
	}
	return out
}

// number reads the number that b begins with, and how many bytes it takes up: what is left is not copied here, so that a text is copied once.
func number(b []byte) (n, used int, e api.Errno) {
	if len(b) == 0 {
		return 0, 0, api.ErrTrunc
	}
	size := int(b[0])
	switch {
	case size > mostBytes:
		return 0, 0, api.ErrSyntax
	case len(b)-1 < size:
		return 0, 0, api.ErrTrunc
	case size > 0 && b[1] == 0:
		return 0, 0, api.ErrSyntax
	}
	for i := range size {
		n = n<<8 | int(b[1+i])
	}
	if n > api.MaxNumber {
		return 0, 0, api.ErrRange
	}
	return n, 1 + size, api.OK
}
