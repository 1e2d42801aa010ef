// Package cells is layer 1: numbers, texts and lists as bytes. See shared/doc/01-cells.md.
package cells

import (
	"math"
	"math/bits"

	"entrepot/api"
)

// A number below single is its cell's only byte; other cells begin with above or below, and how many bytes come behind.
const (
	single = 128
	above  = 128
	below  = 144
)

func Num(n int) []byte {
	return putNum(nil, n)
}

func putNum(b []byte, n int) []byte {
	if n >= 0 && n < single {
		return append(b, byte(n))
	}
	first, rest := above, uint64(n)
	if n < 0 {
		// Of the least int only this has room in an int.
		first, rest = below, uint64(-1-n)
	}
	size := (bits.Len64(rest) + 7) / 8
	b = append(b, byte(first+size))
	for i := size - 1; i >= 0; i-- {
		b = append(b, byte(rest>>(8*i)))
	}
	return b
}

func First(b []byte) (int, int, api.Errno) {
	if len(b) == 0 {
		return 0, 0, api.ErrCode
	}
	first := int(b[0])
	switch {
	case first < single:
		return first, 1, api.OK
	case first < below:
		size := first - above
		// A number that one byte says alone would have two cells.
		if n, ok := magnitude(b[1:], size); ok && n >= single {
			return n, 1 + size, api.OK
		}
	default:
		size := first - below
		if n, ok := magnitude(b[1:], size); ok {
			return -1 - n, 1 + size, api.OK
		}
	}
	return 0, 0, api.ErrCode
}

// magnitude refuses what Num never makes: a 0 ahead, and more than an int has.
func magnitude(b []byte, size int) (int, bool) {
	if size > 8 || size > len(b) || size > 0 && b[0] == 0 {
		return 0, false
	}
	var n uint64
	for _, x := range b[:size] {
		n = n<<8 | uint64(x)
	}
	if n > math.MaxInt {
		return 0, false
	}
	return int(n), true
}
