package tempo_test

import (
	"bytes"
	"math"
	"reflect"
	"slices"
	"testing"

	"tempo/api"
	"tempo/tempo"
)

// recorded: bytes behind the head of records, with their sum.
func recorded(b []byte) []byte { return between("TMR\x01", b) }

// listedAs: the bytes of records that are these numbers.
func listedAs(numbers ...int) []byte { return recorded(written(numbers...)) }

func records(l ...api.Record) []api.Record { return l }

// threeHappened: three records, and their numbers between head and sum.
func threeHappened() ([]api.Record, []int) {
	return records(happened(1, 10, 1, 0), happened(300, 13, 7, 4, 5, -1, 0), happened(2, 13, 0, 7, 1000000000, -1000000000)), []int{
		3,
		10, 1, 1, 0, 0,
		3, 300, 7, 4, 3, 10, 1, 0,
		0, 2, 0, 7, 2, 2000000000, 1999999999,
	}
}

// alike tells whether two lists are the same, of what was told nil and empty being the same.
func alike(a, b []api.Record) bool {
	return slices.EqualFunc(a, b, func(a, b api.Record) bool {
		told := slices.Equal(a.Told, b.Told)
		a.Told, b.Told = nil, nil
		return told && reflect.DeepEqual(a, b)
	})
}

// wantEncode: these bytes, which are read as what was written (P10, P11, P15).
func wantEncode(t *testing.T, l []api.Record, want []byte) {
	t.Helper()
	for range 2 {
		if b, e := tempo.Encode(l); !bytes.Equal(b, want) || e != api.OK {
			t.Errorf("P10: Encode(%v) = %x, %d, want %x", l, b, e, want)
		}
		if back, e := tempo.Decode(want); !alike(back, l) || e != api.OK {
			t.Errorf("P15: %v, written as %x, is read as %v, %d", l, want, back, e)
		}
	}
}

func wantNotEncoded(t *testing.T, l []api.Record) {
	t.Helper()
	if b, e := tempo.Encode(l); b != nil || e != api.ErrArg {
		t.Errorf("P10: Encode(%v) = %x, %d, want ErrArg", l, b, e)
	}
}

// wantNotDecoded: this error.
func wantNotDecoded(t *testing.T, b []byte, want api.Errno) {
	t.Helper()
	if l, e := tempo.Decode(b); l != nil || e != want {
		t.Errorf("P11: Decode(%x) = %v, %d, want %d", b, l, e, want)
	}
}

func TestEncodeOfNothing(t *testing.T) {
	for _, l := range [][]api.Record{nil, {}, make([]api.Record, 0, 5)} {
		wantEncode(t, l, []byte("TMR\x01\x00\x0e\x1a\xa0\x99"))
	}
}

func TestEncodeOfTheExample(t *testing.T) {
	k := made(t, exampleModel(), nil)
	k.Plan(10, 1, 0)
	l, _, _ := k.Run(9, 20)
	wantEncode(t, l, between("TMR\x01", []byte("\x04\x0a\x01\x01\x00\x00\x03\x02\x00\x00\x01\x0a\x03\x03\x00\x00\x01\x14\x03\x04\x00\x00\x01\x1e")))
}

func TestEncode(t *testing.T) {
	l, numbers := threeHappened()
	wantEncode(t, l, listedAs(numbers...))
	wantEncode(t, l[:2], listedAs(append([]int{2}, numbers[1:14]...)...))
	wantEncode(t, l[:1], listedAs(append([]int{1}, numbers[1:6]...)...))
	wantEncode(t, l[2:], listedAs(1, 13, 2, 0, 7, 2, 2000000000, 1999999999))
	wantEncode(t, records(happened(0, 0, 0, 0)), []byte("TMR\x01\x01\x00\x00\x00\x00\x00"+string(plainSum([]byte("TMR\x01\x01\x00\x00\x00\x00\x00")))))
	wantEncode(t, records(api.Record{Told: []int{}}, api.Record{Told: []int{0}}), listedAs(2, 0, 0, 0, 0, 0, 0, 0, 0, 0, 1, 0))
	// Numbers may fall, and be the same, whatever the times are.
	wantEncode(t, records(happened(9, 4, 0, 0), happened(9, 4, 0, 0), happened(8, 4, 0, 0), happened(8, 5, 0, 0)), listedAs(4, 4, 9, 0, 0, 0, 0, 9, 0, 0, 0, 0, 8, 0, 0, 0, 1, 8, 0, 0, 0))
}

// TestEncodeAtItsBounds changes one part of one of five records.
func TestEncodeAtItsBounds(t *testing.T) {
	for _, c := range []struct {
		part      func(r *api.Record) *int
		low, high int
	}{
		{func(r *api.Record) *int { return &r.Number }, 0, 1000000000},
		{func(r *api.Record) *int { return &r.Kind }, 0, 7},
		{func(r *api.Record) *int { return &r.Entity }, 0, 7},
		{func(r *api.Record) *int { return &r.Told[0] }, -1000000000, 1000000000},
		{func(r *api.Record) *int { return &r.Told[1] }, -1000000000, 1000000000},
		{func(r *api.Record) *int { return &r.Told[2] }, -1000000000, 1000000000},
	} {
		for at := range 5 {
			l := make([]api.Record, 5)
			for i := range l {
				l[i] = happened(20+i, 30+i, 1, 2, 3, 4, 5)
			}
			for _, n := range []int{c.low, c.low + 1, c.high - 1, c.high} {
				*c.part(&l[at]) = n
				wantEncode(t, l, plainEncode(l))
			}
			for _, n := range []int{math.MinInt, c.low - 1, c.high + 1, c.high + 1<<32, math.MaxInt} {
				*c.part(&l[at]) = n
				wantNotEncoded(t, l)
			}
		}
	}
}

func TestEncodeOfTimes(t *testing.T) {
	const last = 1000000000000
	for _, c := range []struct {
		times []int
		ok    bool
	}{
		{[]int{0}, true}, {[]int{1}, true}, {[]int{last - 1}, true}, {[]int{last}, true},
		{[]int{-1}, false}, {[]int{last + 1}, false}, {[]int{math.MinInt}, false}, {[]int{math.MaxInt}, false}, {[]int{1 << 62}, false},
		{[]int{0, 0, 0}, true}, {[]int{7, 7, 7}, true}, {[]int{last, last, last}, true}, {[]int{0, last, last}, true},
		{[]int{7, 6}, false}, {[]int{7, 7, 6}, false}, {[]int{6, 8, 7}, false}, {[]int{1, 0}, false}, {[]int{last, 0}, false}, {[]int{last, last - 1}, false}, {[]int{5, 4, 9}, false},
		{[]int{0, -1}, false}, {[]int{0, math.MinInt}, false}, {[]int{0, last + 1}, false}, {[]int{last, last + 1}, false}, {[]int{last, math.MaxInt}, false}, {[]int{-1, 0}, false}, {[]int{math.MinInt, math.MaxInt}, false},
	} {
		var l []api.Record
		for _, time := range c.times {
			l = append(l, happened(1, time, 0, 0))
		}
		if c.ok {
			wantEncode(t, l, plainEncode(l))
		} else {
			wantNotEncoded(t, l)
		}
	}
}

func TestHowManyRecords(t *testing.T) {
	l := make([]api.Record, 5000)
	for i := range l {
		l[i] = happened(i, i/3, i%8, i/8%8, make([]int, i%17)...)
	}
	for _, count := range []int{1, 2, 127, 128, 999, 1000} {
		wantEncode(t, l[:count], plainEncode(l[:count]))
	}
	for _, count := range []int{1001, 1002, 1128, 5000} {
		wantNotEncoded(t, l[:count])
		wantNotDecoded(t, plainEncode(l[:count]), api.ErrForm)
	}
}

func TestHowMuchIsTold(t *testing.T) {
	for size := range 40 {
		long := make([]int, size)
		for i := range long {
			long[i] = 7 * i
		}
		for _, l := range [][]api.Record{records(happened(1, 2, 3, 4, long...)), records(happened(1, 2, 3, 4, 5), happened(1, 2, 3, 4, long...)), records(happened(1, 2, 3, 4, long...), happened(1, 2, 3, 4, 5))} {
			if size <= 16 {
				wantEncode(t, l, plainEncode(l))
			} else {
				wantNotEncoded(t, l)
				wantNotDecoded(t, plainEncode(l), api.ErrForm)
			}
		}
	}
	long := make([]int, 16)
	for i := range long {
		long[i] = 1000000001
		wantNotEncoded(t, records(happened(1, 2, 3, 4, long...)))
		long[i] = -1000000000
		wantEncode(t, records(happened(1, 2, 3, 4, long...)), plainEncode(records(happened(1, 2, 3, 4, long...))))
	}
}

// TestDecodeAtItsBounds changes one number of those that may be read.
func TestDecodeAtItsBounds(t *testing.T) {
	_, numbers := threeHappened()
	for _, c := range []struct {
		at, low, high int // the place, and from where to where it may be
	}{
		{0, 3, 3},
		{1, 0, 999999999997}, {2, 0, 1000000000}, {3, 0, 7}, {4, 0, 7}, {5, 0, 0},
		{6, 0, 999999999990}, {7, 0, 1000000000}, {8, 0, 7}, {9, 0, 7}, {10, 3, 3}, {11, 0, 2000000000}, {12, 0, 2000000000}, {13, 0, 2000000000},
		{14, 0, 999999999987}, {15, 0, 1000000000}, {16, 0, 7}, {17, 0, 7}, {18, 2, 2}, {19, 0, 2000000000}, {20, 0, 2000000000},
	} {
		for n, ok := range map[int]bool{c.low - 1: false, c.low: true, c.high: true, c.high + 1: false, c.high + 1<<32: false, math.MaxInt: false} {
			if n < 0 {
				continue
			}
			other := slices.Clone(numbers)
			other[c.at] = n
			if b := listedAs(other...); ok {
				wantDecode(t, b)
			} else {
				wantNotDecoded(t, b, api.ErrForm)
			}
		}
	}
}

// wantDecode: what is read is written as the same bytes.
func wantDecode(t *testing.T, b []byte) {
	t.Helper()
	l, e := tempo.Decode(b)
	if e != api.OK {
		t.Errorf("P11: Decode(%x) = %v, %d", b, l, e)
		return
	}
	wantEncode(t, l, b)
}

func TestDecodeOfNumbersAsTheyMayNotBeWritten(t *testing.T) {
	_, numbers := threeHappened()
	for _, b := range append(writtenOtherwise(numbers), writtenOtherwise([]int{0})...) {
		wantNotDecoded(t, recorded(b), api.ErrForm)
	}
}

func TestDecodeOfOtherBytes(t *testing.T) {
	_, numbers := threeHappened()
	whole := string(listedAs(numbers...))
	for n := range len(whole) {
		want := api.ErrSum
		if n < 8 {
			want = api.ErrForm
		}
		wantNotDecoded(t, []byte(whole[:n]), want)
		b := []byte(whole)
		b[n]++
		if want = api.ErrSum; n < 4 {
			want = api.ErrForm
		}
		wantNotDecoded(t, b, want)
	}
	for _, head := range []string{"TMP\x01", "TMR\x02", "TMR\x00", "TMR1", "tmr\x01", "\x01RMT", "ATMR"} {
		wantNotDecoded(t, between(head, written(numbers...)), api.ErrForm)
		wantNotDecoded(t, []byte(head+whole[4:]), api.ErrForm)
	}
	wantNotDecoded(t, nil, api.ErrForm)
	wantNotDecoded(t, []byte{}, api.ErrForm)
	wantNotDecoded(t, []byte("TMR\x01"), api.ErrForm)
	wantNotDecoded(t, []byte("TMR\x01\x00\x00\x15"), api.ErrForm)
	wantNotDecoded(t, []byte("TMR\x01\x00\x00\x15\x05"), api.ErrSum)
	wantNotDecoded(t, []byte(whole+"\x00"), api.ErrSum)
	wantNotDecoded(t, recorded(nil), api.ErrForm)
	k := made(t, idle(1, 1), nil)
	wantNotDecoded(t, k.Save(), api.ErrForm)
	if k, e := tempo.Load(idle(1, 1), nil, []byte(whole)); k != nil || e != api.ErrForm {
		t.Errorf("P9: Load of records = %v, %d, want ErrForm", k, e)
	}
}

// TestWhichErrorOfDecode: of several that apply, the one that is named first.
func TestWhichErrorOfDecode(t *testing.T) {
	for _, body := range []string{"", "\x01", "\x80\x00", "\x00\x00", "\xe9\x07"} {
		b := recorded([]byte(body))
		wantNotDecoded(t, b, api.ErrForm)
		b[len(b)-1]++
		wantNotDecoded(t, b, api.ErrSum)
		b[0]++
		wantNotDecoded(t, b, api.ErrForm)
	}
}

func TestNothingHandedToEncodeIsWrittenInto(t *testing.T) {
	told := []int{5, 6, 7, 8}
	all := records(happened(1, 10, 1, 0, told[:2]...), happened(2, 11, 1, 0, told[2:3]...), happened(-5, -5, -5, -5))
	wantEncode(t, all[:2], listedAs(2, 10, 1, 1, 0, 2, 10, 12, 1, 2, 1, 0, 1, 14))
	wantNotEncoded(t, all)
	if !slices.Equal(told, []int{5, 6, 7, 8}) || !reflect.DeepEqual(all, records(happened(1, 10, 1, 0, 5, 6), happened(2, 11, 1, 0, 7), happened(-5, -5, -5, -5))) {
		t.Errorf("P1: what was handed in is now %v, %v", all, told)
	}
	b, _ := tempo.Encode(all[:2])
	clear(told)
	clear(all)
	if want := listedAs(2, 10, 1, 1, 0, 2, 10, 12, 1, 2, 1, 0, 1, 14); !bytes.Equal(b, want) {
		t.Errorf("P1: what was written follows what was handed in: %x, want %x", b, want)
	}
}

func TestWhatWasEncodedIsTheCallers(t *testing.T) {
	l, numbers := threeHappened()
	a, _ := tempo.Encode(l)
	b, _ := tempo.Encode(l)
	a = a[:cap(a)]
	for i := range a {
		a[i] = 99
	}
	if want := listedAs(numbers...); !bytes.Equal(b, want) {
		t.Errorf("P1: what was written a second time is now %x", b)
	}
	wantEncode(t, l, listedAs(numbers...))
	if want, _ := threeHappened(); !reflect.DeepEqual(l, want) {
		t.Errorf("P1: what was handed in is now %v", l)
	}
}

func TestNothingHandedToDecodeIsKeptOrWrittenInto(t *testing.T) {
	want, numbers := threeHappened()
	b := append(listedAs(numbers...), 88, 89)
	was := slices.Clone(b)
	l, e := tempo.Decode(b[:len(b)-2])
	if e != api.OK || !bytes.Equal(b, was) {
		t.Errorf("P1: %x is now %x (%d)", was, b, e)
	}
	clear(b)
	if !alike(l, want) {
		t.Errorf("P1: what was read follows the bytes: %v, want %v", l, want)
	}
}

// TestWhatWasDecodedIsTheCallers writes into all that came out, as far as it reaches.
func TestWhatWasDecodedIsTheCallers(t *testing.T) {
	var want []api.Record
	for i := range 40 {
		told := make([]int, i%17)
		for j := range told {
			told[j] = i
		}
		want = append(want, happened(i, i, i%8, i%8, told...))
	}
	b := plainEncode(want)
	l, _ := tempo.Decode(b)
	kept, _ := tempo.Decode(b)
	for i := range l {
		told := l[i].Told[:cap(l[i].Told)]
		for j := range told {
			told[j] = i
		}
	}
	if !alike(l, want) {
		t.Errorf("P1: what records told shares memory: %v", l)
	}
	ruined(l)
	if !alike(kept, want) {
		t.Errorf("P1: another answer is now %v", kept)
	}
	wantEncode(t, want, b)
}
