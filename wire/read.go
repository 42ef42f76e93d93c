package wire

import (
	"bytes"

	"tempo/api"
)

// Reader reads what a Writer has written. From the first fault on every number it answers is 0, so that it is enough to ask for a fault in the end.
type Reader struct {
	b     []byte // what is not read yet
	fault bool
}

// Open makes a reader of what stands between the head and the sum, if these are as they must be.
func Open(head string, b []byte) (*Reader, api.Errno) {
	end := len(b) - sumSize
	if end < len(head) || string(b[:len(head)]) != head {
		return nil, api.ErrForm
	}
	if s := sum(b[:end]); !bytes.Equal(b[end:], s[:]) {
		return nil, api.ErrSum
	}
	return &Reader{b: b[len(head):end]}, api.OK
}

// Number reads a number from low, which must not be below 0, to high. Any other is a fault.
func (r *Reader) Number(low, high int) int {
	n, size := number(r.b)
	if r.fault || size == 0 || n < low || n > high {
		r.fault = true
		return 0
	}
	r.b = r.b[size:]
	return n
}

// Signed reads a number from -most to most that may be below 0. Any other is a fault.
func (r *Reader) Signed(most int) int {
	n := r.Number(0, 2*most)
	if n%2 == 1 {
		return -(n + 1) / 2
	}
	return n / 2
}

// Ended tells whether all is read, without a fault.
func (r *Reader) Ended() bool { return !r.fault && len(r.b) == 0 }

// longest: as many bytes as the greatest int needs.
const longest = 9

// number reads the number with which bytes begin, and in how many bytes it is; in none, if they do not begin with one.
func number(b []byte) (int, int) {
	n := 0
	for i, c := range b[:min(len(b), longest)] {
		n |= int(c%128) << (7 * i)
		if c == 0 && i > 0 {
			return 0, 0 // more bytes than it needs
		}
		if c < 128 {
			return n, i + 1
		}
	}
	return 0, 0
}
