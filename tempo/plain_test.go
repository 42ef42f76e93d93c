package tempo_test

import (
	"math"
	"math/rand/v2"
	"testing"

	"tempo/api"
	"tempo/tempo"
)

// What follows writes and reads records in the plainest way, to be held against Encode and Decode.

// plainEncode: the bytes of records, whether they may be written or not, as long as no number is below 0.
func plainEncode(l []api.Record) []byte {
	numbers, time := []int{len(l)}, 0
	for _, r := range l {
		numbers = append(numbers, r.Time-time, r.Number, r.Kind, r.Entity, len(r.Told))
		for _, value := range r.Told {
			numbers = append(numbers, plainSigned(value))
		}
		time = r.Time
	}
	return listedAs(numbers...)
}

// plainDecode: what Decode must answer.
func plainDecode(b []byte) ([]api.Record, api.Errno) {
	numbers, e := plainOpen("TMR\x01", b)
	if e != api.OK {
		return nil, e
	}
	l, ok := plainRecords(numbers)
	if !ok {
		return nil, api.ErrForm
	}
	return l, api.OK
}

// plainRecords: the records that numbers are, if they are some.
func plainRecords(numbers []uint64) ([]api.Record, bool) {
	if len(numbers) == 0 || numbers[0] > 1000 {
		return nil, false
	}
	count, rest, time := numbers[0], numbers[1:], uint64(0)
	var l []api.Record
	for range count {
		if len(rest) < 5 || rest[0] > 1e12 || time+rest[0] > 1e12 || rest[1] > 1e9 || rest[2] >= 8 || rest[3] >= 8 || rest[4] > 16 || uint64(len(rest)) < 5+rest[4] {
			return nil, false
		}
		time += rest[0]
		r := happened(int(rest[1]), int(time), int(rest[2]), int(rest[3]))
		for _, n := range rest[5 : 5+rest[4]] {
			if n > 2e9 {
				return nil, false
			}
			r.Told = append(r.Told, plainValue(int(n)))
		}
		l, rest = append(l, r), rest[5+rest[4]:]
	}
	return l, len(rest) == 0
}

// plainValue: which number is written as this one.
func plainValue(n int) int {
	if plainSigned(n/2) == n {
		return n / 2
	}
	return -n/2 - 1
}

// wantPlainDecode tells what Decode answered, if it is as it must be.
func wantPlainDecode(t *testing.T, b []byte) api.Errno {
	t.Helper()
	want, e := plainDecode(b)
	if e != api.OK {
		wantNotDecoded(t, b, e)
	} else {
		wantEncode(t, want, b)
	}
	if t.Failed() {
		t.FailNow()
	}
	return e
}

func TestDecodeOfAnyByte(t *testing.T) {
	_, numbers := threeHappened()
	found := map[api.Errno]int{}
	for b := range withOtherBytes(written(numbers...)) {
		found[wantPlainDecode(t, recorded(b))]++
	}
	wantEnough(t, found)
}

// chosenRecords: records that may be written, near to one another and at their bounds.
func chosenRecords(source *rand.Rand) []api.Record {
	var l []api.Record
	time := source.IntN(3) * source.IntN(100)
	for range source.IntN(2 + source.IntN(12)) {
		switch source.IntN(9) {
		case 0:
			time += source.IntN(1000000000001 - time)
		case 1, 2, 3:
			time = min(time+source.IntN(300), 1000000000000)
		}
		r := happened([]int{source.IntN(4), source.IntN(500), source.IntN(1000000001), 1000000000}[source.IntN(4)], time, source.IntN(8), source.IntN(8))
		for range source.IntN(1 + source.IntN(17)) {
			r.Told = append(r.Told, chosenValue(source))
		}
		l = append(l, r)
	}
	return l
}

func TestEncodeOfChosenRecords(t *testing.T) {
	source := rand.New(rand.NewPCG(4, 9))
	for range 5000 {
		l := chosenRecords(source)
		wantEncode(t, l, plainEncode(l))
	}
}

// TestEncodeOfOneWrongPart spoils one part of records that may be written.
func TestEncodeOfOneWrongPart(t *testing.T) {
	source := rand.New(rand.NewPCG(4, 1))
	far := []int{math.MinInt, -1 << 62, math.MinInt32, 1 << 62, math.MaxInt}
	for range 5000 {
		l := append(chosenRecords(source), happened(1, 1000000000000, 0, 0, 0))
		at := source.IntN(len(l))
		wrong, r := far[source.IntN(len(far))], &l[at]
		switch source.IntN(6) {
		case 0:
			r.Number = []int{-1, 1000000001, wrong}[source.IntN(3)]
		case 1:
			r.Time = []int{-1, 1000000000001, wrong}[source.IntN(3)]
		case 2:
			r.Kind = []int{-1, 8, wrong}[source.IntN(3)]
		case 3:
			r.Entity = []int{-1, 8, wrong}[source.IntN(3)]
		case 4:
			r.Told = make([]int, 17+source.IntN(200))
		case 5:
			r.Told = append(make([]int, source.IntN(16)), []int{-1000000001, 1000000001, wrong}[source.IntN(3)])
		}
		wantNotEncoded(t, l)
	}
}

// TestDecodeOfChangedNumbers changes numbers of records.
func TestDecodeOfChangedNumbers(t *testing.T) {
	source, found := rand.New(rand.NewPCG(3, 8)), map[api.Errno]int{}
	for range 2000 {
		b := plainEncode(chosenRecords(source))
		numbers, _ := plainOpen("TMR\x01", b)
		for range 20 {
			found[wantPlainDecode(t, recorded(changed(source, numbers)))]++
		}
	}
	wantEnough(t, found)
}

func TestDecodeOfNoise(t *testing.T) {
	source, found := rand.New(rand.NewPCG(1, 6)), map[api.Errno]int{}
	for range 60000 {
		b := noise(source, 24)
		wantPlainDecode(t, b)
		found[wantPlainDecode(t, recorded(b))]++
		few := append([]byte{byte(source.IntN(3))}, b...)
		found[wantPlainDecode(t, recorded(few))]++
	}
	wantEnough(t, found)
}

// TestWhatHappenedIsReadAsItWas: records of runs (P15); and the two halves of a run that was stopped, compared with the whole (P14).
func TestWhatHappenedIsReadAsItWas(t *testing.T) {
	source, steps := rand.New(rand.NewPCG(8, 8)), 0
	for range 1000 {
		m, draws := chosenModel(source), chosenDraws(source)
		k, n := made(t, m, draws), &naive{m: m, draws: draws, next: 1}
		for range 1 + source.IntN(9) {
			planAlike(t, source, k, n)
		}
		saved, half := k.Save(), source.IntN(10)
		whole, _, _ := k.Run(1000, 1000000000000)
		steps += len(whole)
		wantEncode(t, whole, plainEncode(whole))
		stopped := loaded(t, m, draws, saved)
		first, _, _ := stopped.Run(half, 1000000000000)
		second, _, _ := loaded(t, m, draws, stopped.Save()).Run(1000-half, 1000000000000)
		b, _ := tempo.Encode(append(first, second...))
		if l, e := tempo.Decode(b); e != api.OK || tempo.Compare(whole, l) != -1 {
			t.Fatalf("P14: stopped behind %d of %v: %v", half, whole, l)
		}
	}
	if steps < 10000 {
		t.Errorf("only %d steps: too few to tell", steps)
	}
}
