package tempo_test

import (
	"bytes"
	"reflect"
	"slices"
	"testing"

	"tempo/api"
	"tempo/tempo"
)

// threeWait: a model of two entities and three kinds, five draws, and the numbers between head and sum of a kernel of them that has run and in which three events wait.
func threeWait() (api.Model, []int, []int) {
	return idle(2, 3), []int{4, 5, 6, 7, 8}, []int{
		2, 3, // entities and kinds
		50, 9, 2, // the clock, the next number, draws taken
		0, 1, 2, 299, 300, 7, 2000000000, 1999999999, // registers
		3, 0, 3, 2, 1, 0, 5, 0, 0, 7, 1, 1, 1, // events
	}
}

// Where the numbers of threeWait stand.
const (
	atEntities = iota
	atKinds
	atClock
	atNext
	atTaken
	atRegisters
	atCount  = atRegisters + 8
	atEvents = atCount + 1
)

func wantSave(t *testing.T, k *tempo.Kernel, want []byte) {
	t.Helper()
	for range 2 {
		if b := k.Save(); !bytes.Equal(b, want) {
			t.Errorf("P8: Save() = %x, want %x", b, want)
		}
	}
}

// loaded loads what may be loaded.
func loaded(t *testing.T, m api.Model, draws []int, b []byte) *tempo.Kernel {
	t.Helper()
	k, e := tempo.Load(m, draws, b)
	if k == nil || e != api.OK {
		t.Fatalf("P9: Load(%v, %v, %x) = %v, %d", m, draws, b, k, e)
	}
	return k
}

func wantLoad(t *testing.T, m api.Model, draws []int, b []byte, want api.Errno) {
	t.Helper()
	k, e := tempo.Load(m, draws, b)
	if e != want || (k == nil) != (e != api.OK) {
		t.Errorf("P9: Load(%v, %v, %x) = %v, %d, want %d", m, draws, b, k, e, want)
	} else if e == api.OK {
		if s := k.Save(); !bytes.Equal(s, b) {
			t.Errorf("P15: %x was loaded, and is saved as %x", b, s)
		}
	}
}

func TestSaveOfTheExample(t *testing.T) {
	k := made(t, exampleModel(), nil)
	wantSave(t, k, []byte("TMP\x01\x01\x02\x00\x01\x00\x00\x00\x00\x00\x00\x68\x76\x51\xdb"))
	k.Plan(10, 1, 0)
	wantSave(t, k, sealed(1, 2, 0, 2, 0, 0, 0, 0, 0, 1, 10, 1, 1, 0))
	k.Run(3, 100)
	wantSave(t, k, []byte("TMP\x01\x01\x02\x10\x05\x00\x14\x0a\x06\x08\x01\x03\x04\x00\x00\xd6\x40\x17\x83"))
}

func TestSaveTellsAll(t *testing.T) {
	sets := code(in(api.Draw, 0, 1000), in(api.Set, 1, -65), in(api.Set, 2, 1000000000), in(api.Set, 3, -1000000000))
	k := made(t, of(3, nil, sets), []int{64, 1, 2})
	for i, time := range []int{1000, 300, 1000, 300, 1000000000000, 200} {
		k.Plan(time, i%2, i%3)
	}
	wantSave(t, k, sealed(3, 2, 0, 7, 0, 0, 0, 0, 0, 0, 0, 0, 0, 0, 0, 0, 0, 6, 200, 6, 1, 2, 100, 2, 1, 1, 0, 4, 1, 0, 700, 1, 0, 0, 0, 3, 0, 2, 999999999000, 5, 0, 1))
	k.Run(2, 1000)
	wantSave(t, k, sealed(3, 2, 300, 7, 2, 0, 0, 0, 0, 2, 129, 2000000000, 1999999999, 128, 129, 2000000000, 1999999999, 4, 0, 4, 1, 0, 700, 1, 0, 0, 0, 3, 0, 2, 999999999000, 5, 0, 1))
	k.Run(9, 1000000000000)
	wantSave(t, k, sealed(3, 2, 1000000000000, 7, 3, 4, 129, 2000000000, 1999999999, 2, 129, 2000000000, 1999999999, 128, 129, 2000000000, 1999999999, 0))
}

func TestSaveOfAFullQueue(t *testing.T) {
	k, want := made(t, idle(8, 8), nil), append([]int{8, 8, 0, 17, 0}, append(make([]int, 32), 16)...)
	for n := 1; n <= 16; n++ {
		k.Plan(1000-10*n, n%8, (n+3)%8)
	}
	for n := 16; n >= 1; n-- {
		want = append(want, 10, n, n%8, (n+3)%8)
	}
	want[38] = 840
	wantSave(t, k, sealed(want...))
	wantLoad(t, idle(8, 8), nil, sealed(want...), api.OK)
}

func TestALoadedKernelIsSo(t *testing.T) {
	m, draws, numbers := threeWait()
	k := loaded(t, m, draws, sealed(numbers...))
	wantNow(t, k, 50, 3, 3)
	wantRegisters(t, k, 0, 0, -1, 1, -150)
	wantRegisters(t, k, 1, 150, -4, 1000000000, -1000000000)
	wantSave(t, k, sealed(numbers...))
	if n, e := k.Plan(49, 0, 0); n != 0 || e != api.ErrArg {
		t.Errorf("P9: Plan(49, 0, 0) behind a clock of 50 = %d, %d", n, e)
	}
	if n, e := k.Plan(50, 2, 0); n != 9 || e != api.OK {
		t.Errorf("P9: Plan with a next number of 9 = %d, %d", n, e)
	}
	wantRun(t, k, 9, 99, api.Empty, happened(3, 50, 2, 1), happened(5, 50, 0, 0), happened(9, 50, 2, 0), happened(1, 57, 1, 1))
}

// TestLoadedDraws: as many draws as are given, less those that were taken, whatever they were when the kernel was saved.
func TestLoadedDraws(t *testing.T) {
	m := of(1, code(in(api.Draw, 0, 1000), in(api.Tell, 0)))
	for taken, want := range [][]api.Record{
		{happened(1, 5, 0, 0, 70), happened(2, 5, 0, 0, 80)},
		{happened(1, 5, 0, 0, 80)},
		nil,
	} {
		k := loaded(t, m, []int{70, 80}, sealed(1, 1, 5, 4, taken, 0, 0, 0, 0, 3, 0, 1, 0, 0, 0, 2, 0, 0, 0, 3, 0, 0))
		wantNow(t, k, 5, 3, 2-taken)
		wantRun(t, k, 5, 5, api.Dry, want...)
	}
	wantLoad(t, m, []int{70, 80}, sealed(1, 1, 5, 4, 3, 0, 0, 0, 0, 0), api.ErrForm)
	wantLoad(t, m, nil, sealed(1, 1, 5, 4, 0, 0, 0, 0, 0, 0), api.OK)
	wantLoad(t, m, nil, sealed(1, 1, 5, 4, 1, 0, 0, 0, 0, 0), api.ErrForm)
	wantLoad(t, m, make([]int, 1000), sealed(1, 1, 5, 4, 1000, 0, 0, 0, 0, 0), api.OK)
	wantLoad(t, m, make([]int, 1000), sealed(1, 1, 5, 4, 1001, 0, 0, 0, 0, 0), api.ErrForm)
}

// TestNumbersOfALoadedKernelAreUsedUp: numbers so great are soon reached only by loading.
func TestNumbersOfALoadedKernelAreUsedUp(t *testing.T) {
	m := of(1, code(in(api.Plan, 1, 0, 0), in(api.Tell, 3)), nil)
	k := loaded(t, m, nil, sealed(1, 2, 5, 999999999, 0, 0, 0, 0, 0, 2, 0, 7, 0, 0, 1, 8, 0, 0))
	wantRun(t, k, 9, 99, api.Full, happened(7, 5, 0, 0, 999999999), happened(999999999, 5, 1, 0))
	wantRegisters(t, k, 0, 0, 0, 0, 999999999)
	if n, e := k.Plan(8, 0, 0); n != 0 || e != api.ErrFull {
		t.Errorf("P4: Plan with a next number of 1000000000 = %d, %d, want ErrFull", n, e)
	}
	wantSave(t, k, sealed(1, 2, 5, 1000000000, 0, 0, 0, 0, 1999999998, 1, 1, 8, 0, 0))
	wantLoad(t, m, nil, k.Save(), api.OK)
}

// TestLoadAtItsBounds changes one number of those that may be loaded.
func TestLoadAtItsBounds(t *testing.T) {
	m, draws, numbers := threeWait()
	for _, c := range []struct {
		at, low, high int // the place, and from where to where it may be
	}{
		{atEntities, 2, 2}, {atKinds, 3, 3}, {atClock, 0, 999999999993}, {atNext, 6, 1000000000}, {atTaken, 0, 5},
		{atRegisters, 0, 2000000000}, {atRegisters + 3, 0, 2000000000}, {atRegisters + 4, 0, 2000000000}, {atRegisters + 7, 0, 2000000000},
		{atCount, 3, 3},
		{atEvents, 0, 999999999943}, {atEvents + 1, 2, 4}, {atEvents + 2, 0, 2}, {atEvents + 3, 0, 1},
		{atEvents + 4, 0, 999999999943}, {atEvents + 5, 4, 8}, {atEvents + 6, 0, 2}, {atEvents + 7, 0, 1},
		{atEvents + 8, 1, 999999999950}, {atEvents + 9, 1, 2}, {atEvents + 9, 4, 4}, {atEvents + 9, 6, 8}, {atEvents + 10, 0, 2}, {atEvents + 11, 0, 1},
	} {
		for n, want := range map[int]api.Errno{c.low - 1: api.ErrForm, c.low: api.OK, c.high: api.OK, c.high + 1: api.ErrForm} {
			if n >= 0 {
				changed := slices.Clone(numbers)
				changed[c.at] = n
				wantLoad(t, m, draws, sealed(changed...), want)
			}
		}
	}
}

func TestLoadOfAClockAtItsBound(t *testing.T) {
	m := idle(1, 1)
	wantLoad(t, m, nil, sealed(1, 1, 1000000000000, 1, 0, 0, 0, 0, 0, 0), api.OK)
	wantLoad(t, m, nil, sealed(1, 1, 1000000000001, 1, 0, 0, 0, 0, 0, 0), api.ErrForm)
	wantLoad(t, m, nil, sealed(1, 1, 1000000000000, 2, 0, 0, 0, 0, 0, 1, 0, 1, 0, 0), api.OK)
	wantLoad(t, m, nil, sealed(1, 1, 1000000000000, 2, 0, 0, 0, 0, 0, 1, 1, 1, 0, 0), api.ErrForm)
	wantLoad(t, m, nil, sealed(1, 1, 0, 2, 0, 0, 0, 0, 0, 1, 1000000000000, 1, 0, 0), api.OK)
	wantLoad(t, m, nil, sealed(1, 1, 0, 2, 0, 0, 0, 0, 0, 1, 1000000000001, 1, 0, 0), api.ErrForm)
	wantLoad(t, m, nil, sealed(1, 1, 0, 1, 0, 0, 0, 0, 0, 0), api.OK)
	wantLoad(t, m, nil, sealed(1, 1, 0, 0, 0, 0, 0, 0, 0, 0), api.ErrForm)
	wantLoad(t, m, nil, sealed(1, 1, 0, 1, 0, 0, 0, 0, 0, 1, 0, 0, 0, 0), api.ErrForm)
	wantLoad(t, m, nil, sealed(1, 1, 0, 1, 0, 0, 0, 0, 0, 1, 0, 1, 0, 0), api.ErrForm)
}

func TestLoadOfTooManyEvents(t *testing.T) {
	for count, want := range map[int]api.Errno{15: api.OK, 16: api.OK, 17: api.ErrForm, 18: api.ErrForm} {
		numbers := []int{1, 1, 0, 100, 0, 0, 0, 0, 0, count}
		for n := range count {
			numbers = append(numbers, 0, n+1, 0, 0)
		}
		wantLoad(t, idle(1, 1), nil, sealed(numbers...), want)
	}
}

// TestLoadOfEvents: their times and numbers, as they stand there.
func TestLoadOfEvents(t *testing.T) {
	for _, c := range []struct {
		events [][2]int // how much later, and the number
		want   api.Errno
	}{
		{nil, api.OK},
		{[][2]int{{0, 1}, {0, 2}, {0, 3}}, api.OK},
		{[][2]int{{0, 2}, {0, 1}, {0, 3}}, api.ErrForm},
		{[][2]int{{0, 1}, {0, 3}, {0, 2}}, api.ErrForm},
		{[][2]int{{0, 2}, {1, 1}, {0, 3}}, api.OK},
		{[][2]int{{5, 3}, {1, 2}, {1, 1}}, api.OK},
		{[][2]int{{0, 2}, {0, 2}}, api.ErrForm},
		{[][2]int{{0, 2}, {1, 2}}, api.ErrForm},
		{[][2]int{{0, 2}, {1, 3}, {1, 2}}, api.ErrForm},
		{[][2]int{{9, 5}, {0, 6}, {0, 9}}, api.OK},
		{[][2]int{{9, 5}, {0, 6}, {0, 10}}, api.ErrForm},
		{[][2]int{{9, 5}, {0, 6}, {0, 0}}, api.ErrForm},
		{[][2]int{{9, 5}, {0, 6}, {2, 0}}, api.ErrForm},
	} {
		numbers := []int{1, 1, 30, 10, 0, 0, 0, 0, 0, len(c.events)}
		for _, event := range c.events {
			numbers = append(numbers, event[0], event[1], 0, 0)
		}
		wantLoad(t, idle(1, 1), nil, sealed(numbers...), c.want)
	}
}

// writtenOtherwise: numbers as they may not be written, each in its turn, and with bytes missing or left over.
func writtenOtherwise(numbers []int) [][]byte {
	var all [][]byte
	for at := range numbers {
		ahead, behind := written(numbers[:at]...), written(numbers[at+1:]...)
		own := written(numbers[at])
		own[len(own)-1] |= 128
		for _, more := range []string{"\x00", "\x80\x00", "\x80\x80\x80\x80\x80\x80\x80\x80\x00", "\x80\x80\x80\x80\x80\x80\x80\x80\x80\x80\x01", ""} {
			all = append(all, slices.Concat(ahead, own, []byte(more), behind))
		}
		all = append(all,
			slices.Concat(ahead, bytes.Repeat([]byte{255}, 9), []byte{1}, behind),
			slices.Concat(ahead, bytes.Repeat([]byte{255}, 8), []byte{127}, behind),
			ahead,
			slices.Concat(ahead, []byte{128}),
			slices.Concat(ahead, behind),
		)
	}
	for _, more := range []string{"\x00", "\x01", "\x80", "\x00\x00\x00\x00", "\x01\x02\x00\x00"} {
		all = append(all, append(written(numbers...), more...))
	}
	return all
}

func TestLoadOfNumbersAsTheyMayNotBeWritten(t *testing.T) {
	m, draws, numbers := threeWait()
	for _, b := range writtenOtherwise(numbers) {
		wantLoad(t, m, draws, headed(b), api.ErrForm)
	}
}

func TestLoadOfOtherBytes(t *testing.T) {
	m, draws, numbers := threeWait()
	whole := string(sealed(numbers...))
	for n := range len(whole) {
		want := api.ErrSum
		if n < 8 {
			want = api.ErrForm
		}
		wantLoad(t, m, draws, []byte(whole[:n]), want)
		b := []byte(whole)
		b[n]++
		if want = api.ErrSum; n < 4 {
			want = api.ErrForm
		}
		wantLoad(t, m, draws, b, want)
	}
	for _, head := range []string{"TMR\x01", "TMP\x02", "TMP\x00", "TMP1", "tmp\x01", "\x01PMT", "ATMP"} {
		b := []byte(head + whole[4:len(whole)-4])
		wantLoad(t, m, draws, append(b, plainSum(b)...), api.ErrForm)
	}
	wantLoad(t, m, draws, nil, api.ErrForm)
	wantLoad(t, m, draws, []byte(whole+"\x00"), api.ErrSum)
	wantLoad(t, m, draws, []byte("TMP\x01\x00\x00\x15\x05"), api.ErrSum)
	wantLoad(t, m, draws, headed(nil), api.ErrForm)
}

func TestLoadWithAnotherModel(t *testing.T) {
	m, draws, numbers := threeWait()
	whole := sealed(numbers...)
	for entities := 1; entities <= 8; entities++ {
		for kinds := 1; kinds <= 8; kinds++ {
			want := api.ErrForm
			if entities == 2 && kinds == 3 {
				want = api.OK
			}
			wantLoad(t, idle(entities, kinds), draws, whole, want)
		}
	}
	// Other instructions, and other draws, if there are enough of them, are those of the kernel that goes on.
	m.Kinds[2] = code(in(api.Draw, 2, 100), in(api.Tell, 2), in(api.Tell, 3))
	k := loaded(t, m, []int{1, 2, 33}, whole)
	wantNow(t, k, 50, 3, 1)
	wantRun(t, k, 1, 50, api.Ran, happened(3, 50, 2, 1, 33, -1000000000))
}

// TestWhichErrorOfLoad: of several that apply, the one that is named first.
func TestWhichErrorOfLoad(t *testing.T) {
	m, draws, numbers := threeWait()
	bad := of(1, code(in(api.Set, 4)))
	whole := sealed(numbers...)
	wrong := slices.Clone(whole)
	wrong[len(wrong)-1]++
	for _, b := range [][]byte{nil, []byte("TMQ\x01"), wrong, headed(nil), whole} {
		for _, m := range []api.Model{{}, idle(9, 1), idle(1, 9), bad} {
			wantLoad(t, m, draws, b, api.ErrModel)
			wantLoad(t, m, []int{-1}, b, api.ErrModel)
		}
		for _, draws := range [][]int{{-1}, {4, 5, 1000000001}, make([]int, 1001)} {
			wantLoad(t, m, draws, b, api.ErrArg)
		}
	}
	wantLoad(t, m, draws, append([]byte("TMQ\x01"), wrong[4:]...), api.ErrForm)
	wantLoad(t, m, nil, wrong, api.ErrSum)
	wantLoad(t, m, nil, whole, api.ErrForm)
}

func TestNothingHandedToLoadIsKeptOrWrittenInto(t *testing.T) {
	tells := code(in(api.Draw, 0, 100), in(api.Tell, 0), in(api.Tell, 0))
	m, draws := of(1, tells[:2]), []int{5, 6, 7}
	b := sealed(1, 1, 3, 2, 1, 0, 0, 0, 0, 1, 4, 1, 0, 0)
	b = append(b, 88)
	was := slices.Clone(b)
	k := loaded(t, m, draws[:2], b[:len(b)-1])
	if !bytes.Equal(b, was) || !slices.Equal(draws, []int{5, 6, 7}) || !reflect.DeepEqual(tells, code(in(api.Draw, 0, 100), in(api.Tell, 0), in(api.Tell, 0))) {
		t.Errorf("P1: what was handed in is now %v, %v, %x", tells, draws, b)
	}
	clear(tells)
	clear(draws)
	clear(b)
	m.Kinds[0] = nil
	wantSave(t, k, was[:len(was)-1])
	wantRun(t, k, 2, 9, api.Empty, happened(1, 7, 0, 0, 6))
}

func TestWhatWasSavedIsTheCallers(t *testing.T) {
	m, draws, numbers := threeWait()
	k, want := loaded(t, m, draws, sealed(numbers...)), sealed(numbers...)
	a, b := k.Save(), k.Save()
	a = a[:cap(a)]
	for i := range a {
		a[i] = 99
	}
	if !bytes.Equal(b, want) {
		t.Errorf("P1: what was saved a second time is now %x", b)
	}
	wantSave(t, k, want)
	k.Plan(60, 0, 0)
	k.Run(2, 99)
	if !bytes.Equal(b, want) {
		t.Errorf("P1: what was saved follows the kernel: %x", b)
	}
}

func TestLoadedKernelsAreOnTheirOwn(t *testing.T) {
	m, draws, numbers := threeWait()
	whole := sealed(numbers...)
	a := loaded(t, m, draws, whole)
	saved := a.Save()
	b := loaded(t, m, draws, saved)
	a.Run(2, 99)
	a.Plan(99, 1, 1)
	clear(saved)
	wantSave(t, b, whole)
	b.Run(9, 99)
	wantNow(t, a, 50, 2, 3)
	wantNow(t, b, 57, 0, 3)
}
