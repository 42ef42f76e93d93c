package tempo_test

import (
	"math"
	"math/rand/v2"
	"reflect"
	"slices"
	"testing"

	"tempo/api"
	"tempo/tempo"
)

// wantCompare: the same whichever of the lists comes first.
func wantCompare(t *testing.T, a, b []api.Record, want int) {
	t.Helper()
	if got := tempo.Compare(a, b); got != want {
		t.Errorf("P12: Compare(%v, %v) = %d, want %d", a, b, got, want)
	}
	if got := tempo.Compare(b, a); got != want {
		t.Errorf("P12: Compare(%v, %v) = %d, want %d", b, a, got, want)
	}
}

// deepCopy: records that share no memory with others.
func deepCopy(l []api.Record) []api.Record {
	l = slices.Clone(l)
	for i := range l {
		l[i].Told = slices.Clone(l[i].Told)
	}
	return l
}

func TestCompareOfTheSame(t *testing.T) {
	l, _ := threeHappened()
	for n := range len(l) + 1 {
		wantCompare(t, l[:n], l[:n], -1)
		wantCompare(t, l[:n], deepCopy(l[:n]), -1)
	}
	wantCompare(t, nil, nil, -1)
	wantCompare(t, nil, []api.Record{}, -1)
	wantCompare(t, []api.Record{}, []api.Record{}, -1)
	wantCompare(t, l[:1], append(deepCopy(l[:1]), l[2])[:1], -1)
}

func TestCompareOfOneThatIsLonger(t *testing.T) {
	l, _ := threeHappened()
	for long := range len(l) + 1 {
		for short := range long {
			wantCompare(t, l[:long], deepCopy(l[:short]), short)
		}
	}
	wantCompare(t, nil, make([]api.Record, 1), 0)
	wantCompare(t, make([]api.Record, 4000), make([]api.Record, 4001), 4000)
}

// TestCompareOfOneOtherPart changes one part of one record, at every place, with the lists of the same length and not.
func TestCompareOfOneOtherPart(t *testing.T) {
	changes := []func(r *api.Record, n int){
		func(r *api.Record, n int) { r.Number += n },
		func(r *api.Record, n int) { r.Time += n },
		func(r *api.Record, n int) { r.Kind += n },
		func(r *api.Record, n int) { r.Entity += n },
		func(r *api.Record, n int) { r.Told[0] += n },
		func(r *api.Record, n int) { r.Told[1] += n },
		func(r *api.Record, n int) { r.Told[2] += n },
		func(r *api.Record, n int) { r.Told = append(r.Told, n) },
		func(r *api.Record, n int) { r.Told = append(r.Told, 0) },
		func(r *api.Record, n int) { r.Told = r.Told[:2] },
		func(r *api.Record, n int) { r.Told = r.Told[1:] },
		func(r *api.Record, n int) { r.Told = nil },
		func(r *api.Record, n int) { r.Told = []int{} },
		func(r *api.Record, n int) { r.Told[0], r.Told[1] = r.Told[1], r.Told[0] },
		func(r *api.Record, n int) { r.Number, r.Time = r.Time, r.Number },
		func(r *api.Record, n int) { r.Kind, r.Entity = r.Entity, r.Kind },
	}
	var l []api.Record
	for i := range 5 {
		l = append(l, happened(20+i, 30+i, 1, 2, 3+i, 14+i, 25+i))
	}
	for _, change := range changes {
		for _, n := range []int{1, -1, 1 << 8, 1 << 32, math.MinInt} {
			for at := range l {
				other := deepCopy(l)
				change(&other[at], n)
				wantCompare(t, l, other, at)
				wantCompare(t, l, other[:at+1], at)
				wantCompare(t, l, other[:at], at)
				for behind := at + 1; behind < len(l); behind++ {
					change(&other[behind], n)
					wantCompare(t, l, other, at)
				}
			}
		}
	}
}

func TestCompareOfNothingTold(t *testing.T) {
	spare := make([]int, 3, 9)
	for _, c := range []struct {
		a, b []int
		want int
	}{
		{nil, nil, -1}, {nil, []int{}, -1}, {[]int{}, []int{}, -1}, {nil, spare[:0], -1}, {[]int{0, 0}, spare[:2], -1},
		{nil, []int{0}, 1}, {[]int{}, []int{0}, 1}, {spare[:0], spare[:1], 1},
	} {
		a, b := happened(1, 2, 3, 4, c.a...), happened(1, 2, 3, 4, c.b...)
		wantCompare(t, records(a, a), records(a, b), c.want)
		// What is the same does not end the search.
		if c.want == -1 {
			wantCompare(t, records(a, happened(1, 1, 1, 1)), records(b, happened(2, 1, 1, 1)), 1)
		}
	}
}

// TestCompareOfRecordsThatMayNotBe: lists that Encode would not write are compared as any others.
func TestCompareOfRecordsThatMayNotBe(t *testing.T) {
	wild := happened(math.MinInt, math.MaxInt, -1, 1<<40, make([]int, 3000)...)
	other := deepCopy(records(wild))[0]
	other.Told[2999] = math.MinInt
	l := slices.Repeat(records(wild), 1500)
	wantCompare(t, l, l, -1)
	wantCompare(t, l, l[:1200], 1200)
	wantCompare(t, l, slices.Concat(l[:1499], records(other)), 1499)
	wantCompare(t, records(happened(1, 9, 0, 0), happened(1, 4, 0, 0)), records(happened(1, 9, 0, 0), happened(1, 3, 0, 0)), 1)
	wantCompare(t, records(happened(math.MinInt, 0, 0, 0)), records(happened(math.MaxInt, 0, 0, 0)), 0)
}

func TestNothingHandedToCompareIsWrittenInto(t *testing.T) {
	a, _ := threeHappened()
	b := append(deepCopy(a), happened(7, 7, 7, 7, 7))
	wasA, wasB := deepCopy(a), deepCopy(b)
	for n := range len(b) + 1 {
		tempo.Compare(a, b[:n])
		tempo.Compare(b[:n], a)
	}
	if !reflect.DeepEqual(a, wasA) || !reflect.DeepEqual(b, wasB) {
		t.Errorf("P1: what was handed in is now %v, %v", a, b)
	}
}

// TestCompareOfChosenRecords holds Compare against bytes: lists that part at a place are written alike up to there and no further.
func TestCompareOfChosenRecords(t *testing.T) {
	source, parted := rand.New(rand.NewPCG(2, 2)), 0
	for range 5000 {
		a := chosenRecords(source)
		b := append(deepCopy(a[:source.IntN(len(a)+1)]), chosenRecords(source)...)
		place := 0
		for place < min(len(a), len(b)) && string(plainEncode(a[place:place+1])) == string(plainEncode(b[place:place+1])) {
			place++
		}
		if place == len(a) && place == len(b) {
			place = -1
		} else {
			parted++
		}
		wantCompare(t, a, b, place)
	}
	if parted < 1000 || parted > 4900 {
		t.Errorf("%d of 5000 part: too few to tell", parted)
	}
}
