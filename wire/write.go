// Package wire: numbers as bytes, with a head ahead of them and their sum behind them.
package wire

// sumSize: in how many bytes a sum is written.
const sumSize = 4

// Writer writes bytes, one number behind the other.
type Writer struct {
	b []byte
}

// Begin makes a writer that has written a head.
func Begin(head string) *Writer { return &Writer{[]byte(head)} }

// Number writes a number, which must not be below 0.
func (w *Writer) Number(n int) {
	for n > 127 {
		w.b = append(w.b, byte(n%128+128))
		n /= 128
	}
	w.b = append(w.b, byte(n))
}

// Signed writes a number that may be below 0.
func (w *Writer) Signed(n int) {
	if n < 0 {
		w.Number(-2*n - 1)
	} else {
		w.Number(2 * n)
	}
}

// End writes the sum of all that is written, and gives out the whole. Nothing is written behind it.
func (w *Writer) End() []byte {
	s := sum(w.b)
	return append(w.b, s[:]...)
}

// sum makes the four bytes of the sum of bytes.
func sum(b []byte) [sumSize]byte {
	s := uint32(5381)
	for _, c := range b {
		s = 33*s + uint32(c)
	}
	return [sumSize]byte{byte(s >> 24), byte(s >> 16), byte(s >> 8), byte(s)}
}
