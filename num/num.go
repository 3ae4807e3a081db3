// Package num is layer 1: numbers, texts and lists as bytes. See shared/doc/01-num.md.
package num

import (
	"iter"
	"math/bits"
	"slices"

	"garland/api"
)

const (
	maxCount  = 255 // one byte tells how many there are
	maxDigits = 6   // so many bytes MaxNum has
)

// Put: P1.1.
func Put(n int) ([]byte, api.Errno) {
	if !mayBePut(n) {
		goto wrong
	}
	return appendNumber(nil, n), api.OK
wrong:
	return nil, api.ErrArg
}

// Take: P1.1.
func Take(b []byte) (n int, rest []byte, e api.Errno) {
	n, end, e := number(b)
	if e != api.OK {
		goto wrong
	}
	return n, own(b[end:]), api.OK
wrong:
	return 0, nil, e
}

// Text: P1.2.
func Text(s string) ([]byte, api.Errno) {
	var b []byte
	if len(s) > maxCount {
		goto wrong
	}
	b = append(b, byte(len(s)))
	return append(b, s...), api.OK
wrong:
	return nil, api.ErrArg
}

// TakeText: P1.2.
func TakeText(b []byte) (s string, rest []byte, e api.Errno) {
	var end int
	if len(b) == 0 {
		goto short
	}
	end = 1 + int(b[0])
	if len(b) < end {
		goto short
	}
	return string(b[1:end]), own(b[end:]), api.OK
short:
	return "", nil, api.ErrShort
}

// List: P1.3.
func List(l ...int) ([]byte, api.Errno) {
	var b []byte
	if len(l) > maxCount {
		goto wrong
	}
	b = append(b, byte(len(l)))
	for n := range slices.Values(l) {
		if !mayBePut(n) {
			goto wrong
		}
		b = appendNumber(b, n)
	}
	return b, api.OK
wrong:
	return nil, api.ErrArg
}

// TakeList: P1.3.
func TakeList(b []byte) (l []int, rest []byte, e api.Errno) {
	var at int
	if len(b) == 0 {
		e = api.ErrShort
		goto wrong
	}
	at = 1
	for range int(b[0]) {
		n, end, f := number(b[at:])
		if f != api.OK {
			e = f
			goto wrong
		}
		l = append(l, n)
		at += end
	}
	return l, own(b[at:]), api.OK
wrong:
	return nil, nil, e
}

// mayBePut tells whether n is from 0 to MaxNum.
func mayBePut(n int) bool { return n >= 0 && n <= api.MaxNum }

// digits gives n by 256, the highest first; none of 0.
func digits(n int) iter.Seq[byte] {
	return func(yield func(byte) bool) {
		for i := size(n) - 1; i >= 0; i-- {
			if !yield(byte(n >> (8 * i))) {
				return
			}
		}
	}
}

// size is how many digits n has.
func size(n int) int { return (bits.Len(uint(n)) + 7) / 8 }

// appendNumber puts the bytes of n, which may be put, behind b.
func appendNumber(b []byte, n int) []byte {
	b = append(b, byte(size(n)))
	for d := range digits(n) {
		b = append(b, d)
	}
	return b
}

// number is the number whose bytes b begins with, and where they end. It copies nothing, so that a list of many numbers is read in one pass.
func number(b []byte) (n, end int, e api.Errno) {
	if len(b) == 0 {
		goto short
	}
	if b[0] > maxDigits {
		goto wrong
	}
	end = 1 + int(b[0])
	if len(b) < end {
		goto short
	}
	if end > 1 && b[1] == 0 {
		goto wrong
	}
	for d := range slices.Values(b[1:end]) {
		n = n<<8 | int(d)
	}
	if n > api.MaxNum {
		goto wrong
	}
	return n, end, api.OK
short:
	return 0, 0, api.ErrShort
wrong:
	return 0, 0, api.ErrForm
}

// own is b in memory of its own.
func own(b []byte) []byte { return append([]byte(nil), b...) }
