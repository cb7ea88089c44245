package impl

import (
	"bytes"
	"slices"
)

const MaxNum = 2147483647
const MaxText = 20

// Seven bits a byte: the 31 bits of MaxNum need five.
const mostNumBytes = 5

func PutNum(b []byte, n int) []byte {
	digits, size := numBytes(n)
	return slices.Concat(b, digits[:size])
}

func GetNum(b []byte, at int) (int, int) {
	if at < 0 || at >= len(b) {
		return 0, -1
	}
	n := 0
	for i, c := range b[at:min(len(b), at+mostNumBytes)] {
		n |= int(c&127) << (7 * i)
		if c >= 128 {
			continue
		}
		// A last byte of 0 behind others would be a second way to write a number.
		if c == 0 && i > 0 || n > MaxNum {
			return 0, -1
		}
		return n, at + i + 1
	}
	return 0, -1
}

func PutText(b []byte, t []byte) []byte {
	if len(t) > MaxText {
		return bytes.Clone(b)
	}
	digits, size := numBytes(len(t))
	return slices.Concat(b, digits[:size], t)
}

func GetText(b []byte, at int) ([]byte, int) {
	size, next := GetNum(b, at)
	if next < 0 || size > MaxText || size > len(b)-next {
		return nil, -1
	}
	end := next + size
	return bytes.Clone(b[next:end]), end
}

func NumLen(n int) int {
	_, size := numBytes(n)
	return size
}

func HasPrefix(b []byte, p []byte) bool {
	return Common(b, p) == len(p)
}

func Common(a []byte, b []byte) int {
	n := min(len(a), len(b))
	for i := range n {
		if a[i] != b[i] {
			return i
		}
	}
	return n
}

// numBytes answers the bytes of n and how many of them count: 0 where n is no number.
func numBytes(n int) ([mostNumBytes]byte, int) {
	var digits [mostNumBytes]byte
	if n < 0 || n > MaxNum {
		return digits, 0
	}
	last := 0
	for ; n > 127; n >>= 7 {
		digits[last] = byte(n&127) | 128
		last++
	}
	digits[last] = byte(n)
	return digits, last + 1
}
