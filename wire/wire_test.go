package wire

import (
	"bytes"
	"math"
	"slices"
	"testing"

	"tempo/api"
)

// ended gives the bytes a sum, but writes nothing into them.
func ended(b string) []byte {
	s := sum([]byte(b))
	return []byte(b + string(s[:]))
}

func opened(t *testing.T, b string) *Reader {
	t.Helper()
	r, e := Open("HEAD", ended("HEAD"+b))
	if r == nil || e != api.OK {
		t.Fatalf("P9: Open of %q = %v, %d", b, r, e)
	}
	return r
}

func TestSum(t *testing.T) {
	for _, c := range []struct {
		b    string
		want [4]byte
	}{
		{"", [4]byte{0x00, 0x00, 0x15, 0x05}},
		{"\x00", [4]byte{0x00, 0x02, 0xb5, 0xa5}},
		{"\x01", [4]byte{0x00, 0x02, 0xb5, 0xa6}},
		{"\xff", [4]byte{0x00, 0x02, 0xb6, 0xa4}},
		{"ab", [4]byte{0x00, 0x59, 0x77, 0x28}}, // 33*(33*5381+97)+98
		{"ba", [4]byte{0x00, 0x59, 0x77, 0x48}},
		{"aaaaa", [4]byte{0x0f, 0x11, 0x23, 0x4a}}, // beyond 2^32
	} {
		if got := sum([]byte(c.b)); got != c.want {
			t.Errorf("P8: the sum of %q = %x, want %x", c.b, got, c.want)
		}
	}
}

func TestNumbers(t *testing.T) {
	for _, c := range []struct {
		n int
		b string
	}{
		{0, "\x00"}, {1, "\x01"}, {127, "\x7f"}, {128, "\x80\x01"}, {129, "\x81\x01"}, {255, "\xff\x01"}, {256, "\x80\x02"},
		{16383, "\xff\x7f"}, {16384, "\x80\x80\x01"}, {2097151, "\xff\xff\x7f"}, {2097152, "\x80\x80\x80\x01"},
		{1000000000, "\x80\x94\xeb\xdc\x03"}, {1000000000000, "\x80\xa0\x94\xa5\x8d\x1d"},
		{math.MaxInt, "\xff\xff\xff\xff\xff\xff\xff\xff\x7f"},
	} {
		w := Begin("HEAD")
		w.Number(c.n)
		if got := w.End(); !bytes.Equal(got, ended("HEAD"+c.b)) {
			t.Errorf("P8: %d is written as %x, want %x", c.n, got, c.b)
		}
		for _, span := range [][2]int{{c.n, c.n}, {0, math.MaxInt}} {
			r := opened(t, c.b)
			if got := r.Number(span[0], span[1]); got != c.n || !r.Ended() {
				t.Errorf("P9: %x from %d to %d is read as %d, %v, want %d", c.b, span[0], span[1], got, r.Ended(), c.n)
			}
		}
		wantFault(t, c.b, 0, c.n-1)
		if c.n < math.MaxInt {
			wantFault(t, c.b, c.n+1, math.MaxInt)
		}
	}
}

func wantFault(t *testing.T, b string, low, high int) {
	t.Helper()
	r := opened(t, b+"\x05")
	if got := r.Number(low, high); got != 0 || r.Ended() {
		t.Errorf("P9: %x from %d to %d is read as %d, %v, want a fault", b, low, high, got, r.Ended())
	}
	for range 3 {
		if got := r.Number(0, math.MaxInt); got != 0 || r.Ended() {
			t.Errorf("P9: behind a fault in %x, %d is read", b, got)
		}
	}
}

func TestSigned(t *testing.T) {
	for _, c := range []struct {
		n int
		b string
	}{
		{0, "\x00"}, {-1, "\x01"}, {1, "\x02"}, {-2, "\x03"}, {2, "\x04"}, {63, "\x7e"}, {-64, "\x7f"}, {64, "\x80\x01"}, {-65, "\x81\x01"},
		{1000000000, "\x80\xa8\xd6\xb9\x07"}, {-1000000000, "\xff\xa7\xd6\xb9\x07"},
	} {
		w := Begin("")
		w.Signed(c.n)
		if got := w.End(); !bytes.Equal(got, ended(c.b)) {
			t.Errorf("P8: %d is written as %x, want %x", c.n, got, c.b)
		}
		most := max(c.n, -c.n)
		r := opened(t, c.b)
		if got := r.Signed(most); got != c.n || !r.Ended() {
			t.Errorf("P9: %x is read as %d, %v, want %d", c.b, got, r.Ended(), c.n)
		}
		if r = opened(t, c.b); most > 0 && (r.Signed(most-1) != 0 || r.Ended()) {
			t.Errorf("P9: %d is read where %d is the most", c.n, most-1)
		}
	}
}

func TestNoNumbers(t *testing.T) {
	many := func(n int) string { return string(bytes.Repeat([]byte{0x80}, n)) }
	for _, b := range []string{
		"", "\x80", "\xff\xff", many(8), many(9), many(10), many(500), // the end is missing
		"\x80\x00", "\x90\x00", "\x81\x80\x00", "\xff\xff\xff\xff\xff\x00", many(8) + "\x00", many(9) + "\x00", many(70) + "\x00", // more bytes than it needs
		many(9) + "\x01", many(9) + "\x02", many(10) + "\x01", many(63) + "\x01", many(64) + "\x01", "\xff\xff\xff\xff\xff\xff\xff\xff\xff\x7f", // too great for a number
	} {
		r := opened(t, b)
		if got := r.Number(0, math.MaxInt); got != 0 || r.Ended() {
			t.Errorf("P9: %x is read as %d, %v, want a fault", b, got, r.Ended())
		}
	}
}

func TestOneBehindTheOther(t *testing.T) {
	w, want := Begin("HEAD"), []int{0, 300, 7, 128, 1000000000000, 0}
	for _, n := range want {
		w.Number(n)
	}
	w.Signed(-300)
	r, e := Open("HEAD", w.End())
	if e != api.OK {
		t.Fatalf("P9: Open = %d", e)
	}
	for _, n := range want {
		if r.Ended() {
			t.Errorf("P9: it has ended ahead of %d", n)
		}
		if got := r.Number(0, math.MaxInt); got != n {
			t.Errorf("P9: %d is read, want %d", got, n)
		}
	}
	if got := r.Signed(300); got != -300 || !r.Ended() {
		t.Errorf("P9: %d, %v is read last, want -300 and the end", got, r.Ended())
	}
	if got := r.Number(0, 9); got != 0 || r.Ended() {
		t.Errorf("P9: %d, %v is read behind the end", got, r.Ended())
	}
}

func TestOpen(t *testing.T) {
	whole := string(ended("HEAD\x07"))
	for _, c := range []struct {
		b string
		e api.Errno
	}{
		{whole, api.OK}, {string(ended("HEAD")), api.OK},
		{"", api.ErrForm}, {"HEAD", api.ErrForm}, {"HEAD\x00\x00\x00", api.ErrForm}, {string(ended("HEA")), api.ErrForm}, {string(ended("")), api.ErrForm},
		{"head" + whole[4:], api.ErrForm}, {string(ended("HEAE\x07")), api.ErrForm}, {string(ended("\x07HEAD")), api.ErrForm},
		{"HEAD\x00\x00\x00\x00", api.ErrSum}, {whole + "\x00", api.ErrSum}, {whole[:len(whole)-1], api.ErrSum}, {"HEAD\x08" + whole[5:], api.ErrSum},
	} {
		if r, e := Open("HEAD", []byte(c.b)); e != c.e || (r == nil) != (e != api.OK) {
			t.Errorf("P9: Open of %q = %v, %d, want %d", c.b, r, e, c.e)
		}
	}
	for i := len(whole) - 4; i < len(whole); i++ {
		b := []byte(whole)
		b[i] ^= 1 << (2 * i % 8)
		if r, e := Open("HEAD", b); r != nil || e != api.ErrSum {
			t.Errorf("P9: Open with a wrong sum %x = %v, %d, want ErrSum", b[len(b)-4:], r, e)
		}
	}
}

func TestNothingReadIsWrittenInto(t *testing.T) {
	b := append(ended("HEAD\x85\x01\x07"), 9, 9, 9)
	was := slices.Clone(b)
	r, e := Open("HEAD", b[:len(b)-3])
	if e != api.OK || r.Number(0, 200) != 133 || r.Number(0, 3) != 0 || !bytes.Equal(b, was) {
		t.Errorf("P1: %x became %x (%d)", was, b, e)
	}
}
