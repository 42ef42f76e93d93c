package tempo_test

import (
	"bytes"
	"cmp"
	"encoding/binary"
	"iter"
	"math"
	"math/rand/v2"
	"reflect"
	"slices"
	"testing"

	"tempo/api"
	"tempo/tempo"
)

// What follows writes and reads a saved kernel in the plainest way, to be held against Save and Load.

func plainSum(b []byte) []byte {
	s := uint64(5381)
	for _, c := range b {
		s = (33*s + uint64(c)) % (1 << 32)
	}
	return binary.BigEndian.AppendUint32(nil, uint32(s))
}

// written: numbers as bytes.
func written(numbers ...int) []byte {
	var b []byte
	for _, n := range numbers {
		b = binary.AppendUvarint(b, uint64(n))
	}
	return b
}

// between: bytes behind a head, with their sum.
func between(head string, b []byte) []byte {
	b = append([]byte(head), b...)
	return append(b, plainSum(b)...)
}

// headed: bytes behind the head of a saved kernel, with their sum.
func headed(b []byte) []byte { return between("TMP\x01", b) }

// sealed: a saved kernel of these numbers.
func sealed(numbers ...int) []byte { return headed(written(numbers...)) }

func plainSigned(n int) int {
	if n < 0 {
		return -2*n - 1
	}
	return 2 * n
}

// saved: what Save must answer of a kernel that is as the naive one.
func (n *naive) saved(taken int) []byte {
	numbers := []int{n.m.Entities, len(n.m.Kinds), n.clock, n.next, taken}
	for entity := range n.m.Entities {
		for _, value := range n.registers[entity] {
			numbers = append(numbers, plainSigned(value))
		}
	}
	waits := slices.Clone(n.waits)
	slices.SortFunc(waits, func(a, b api.Record) int {
		return cmp.Or(cmp.Compare(a.Time, b.Time), cmp.Compare(a.Number, b.Number))
	})
	numbers = append(numbers, len(waits))
	time := n.clock
	for _, e := range waits {
		numbers = append(numbers, e.Time-time, e.Number, e.Kind, e.Entity)
		time = e.Time
	}
	return sealed(numbers...)
}

// plainNumbers: the numbers that bytes are, if they are some.
func plainNumbers(b []byte) ([]uint64, bool) {
	var l []uint64
	for len(b) > 0 {
		n, size := binary.Uvarint(b)
		if size <= 0 || !bytes.Equal(b[:size], binary.AppendUvarint(nil, n)) {
			return nil, false
		}
		l, b = append(l, n), b[size:]
	}
	return l, true
}

// plainOpen: the numbers between a head of four bytes and the sum, or what is wrong with them.
func plainOpen(head string, b []byte) ([]uint64, api.Errno) {
	if len(b) < 8 || string(b[:4]) != head {
		return nil, api.ErrForm
	}
	if body := b[:len(b)-4]; !bytes.Equal(plainSum(body), b[len(b)-4:]) {
		return nil, api.ErrSum
	}
	l, ok := plainNumbers(b[4 : len(b)-4])
	if !ok {
		return nil, api.ErrForm
	}
	return l, api.OK
}

// plainLoad: what Load must answer, for a model and draws that may be.
func plainLoad(m api.Model, draws []int, b []byte) api.Errno {
	l, e := plainOpen("TMP\x01", b)
	if e == api.OK && !plainKernel(m, draws, l) {
		e = api.ErrForm
	}
	return e
}

// plainKernel tells whether numbers are a kernel.
func plainKernel(m api.Model, draws []int, l []uint64) bool {
	if len(l) < 6+4*m.Entities || l[0] != uint64(m.Entities) || l[1] != uint64(len(m.Kinds)) || l[2] > 1e12 || l[3] < 1 || l[3] > 1e9 || l[4] > uint64(len(draws)) {
		return false
	}
	for _, value := range l[5 : 5+4*m.Entities] {
		if value > 2e9 {
			return false
		}
	}
	count, events := l[5+4*m.Entities], l[6+4*m.Entities:]
	if count > 16 || uint64(len(events)) != 4*count {
		return false
	}
	seen, time, number := map[uint64]bool{}, l[2], uint64(0)
	for e := range slices.Chunk(events, 4) {
		if e[0] > 1e12 || time+e[0] > 1e12 || e[1] < 1 || e[1] >= l[3] || seen[e[1]] || e[0] == 0 && e[1] < number || e[2] >= l[1] || e[3] >= l[0] {
			return false
		}
		seen[e[1]], time, number = true, time+e[0], e[1]
	}
	return true
}

// wantPlainLoad tells what Load answered, if it is as it must be.
func wantPlainLoad(t *testing.T, m api.Model, draws []int, b []byte) api.Errno {
	t.Helper()
	want := plainLoad(m, draws, b)
	if wantLoad(t, m, draws, b, want); t.Failed() {
		t.Fatalf("with %d entities, %d kinds, %d draws", m.Entities, len(m.Kinds), len(draws))
	}
	return want
}

// withOtherBytes: bytes with every byte at every place, in the stead of what stands there and ahead of it; and without each.
func withOtherBytes(body []byte) iter.Seq[[]byte] {
	return func(yield func([]byte) bool) {
		for at := range body {
			for c := range 256 {
				other := slices.Clone(body)
				other[at] = byte(c)
				if !yield(other) || !yield(slices.Insert(slices.Clone(body), at, byte(c))) {
					return
				}
			}
			if !yield(slices.Delete(slices.Clone(body), at, at+1)) {
				return
			}
		}
	}
}

func TestLoadOfAnyByte(t *testing.T) {
	m, draws, numbers := threeWait()
	found := map[api.Errno]int{}
	for b := range withOtherBytes(written(numbers...)) {
		found[wantPlainLoad(t, m, draws, headed(b))]++
	}
	wantEnough(t, found)
}

// wantEnough holds against an input that is chosen so badly that a test tells nothing.
func wantEnough(t *testing.T, found map[api.Errno]int) {
	t.Helper()
	if found[api.OK] < 1000 || found[api.ErrForm] < 1000 {
		t.Errorf("of %v too few to tell", found)
	}
}

// chosenNumber: a number near one that is there, or near a bound.
func chosenNumber(source *rand.Rand, n uint64) uint64 {
	bounds := []uint64{0, 1, 2, 3, 8, 16, 17, 60, 1e9, 2e9, 1e12, 1 << 32, 1 << 63, math.MaxUint64}
	if source.IntN(2) == 0 {
		n = bounds[source.IntN(len(bounds))]
	}
	return n + uint64(source.IntN(5)-2)
}

// changed writes numbers again, a few of them otherwise.
func changed(source *rand.Rand, l []uint64) []byte {
	l = slices.Clone(l)
	for range 1 + source.IntN(2) {
		at := source.IntN(len(l))
		if source.IntN(2) == 0 {
			at = max(0, len(l)-1-source.IntN(12))
		}
		switch source.IntN(8) {
		case 0:
			other := source.IntN(len(l))
			l[at], l[other] = l[other], l[at]
		case 1:
			l = append(l[:at], l[min(at+4, len(l)-1):]...)
		default:
			l[at] = chosenNumber(source, l[at])
		}
	}
	var b []byte
	for _, n := range l {
		b = binary.AppendUvarint(b, n)
	}
	return b
}

// TestLoadOfChangedNumbers changes numbers of kernels that have run.
func TestLoadOfChangedNumbers(t *testing.T) {
	source, found := rand.New(rand.NewPCG(5, 2)), map[api.Errno]int{}
	for range 1500 {
		m, draws := chosenModel(source), chosenDraws(source)
		k, n := made(t, m, draws), &naive{m: m, draws: draws, next: 1}
		for range 1 + source.IntN(9) {
			planAlike(t, source, k, n)
		}
		k.Run(source.IntN(8), 1000000000000)
		b := k.Save()
		l, ok := plainNumbers(b[4 : len(b)-4])
		if !ok {
			t.Fatalf("P8: Save() = %x", b)
		}
		for range 20 {
			found[wantPlainLoad(t, m, draws, headed(changed(source, l)))]++
		}
	}
	wantEnough(t, found)
}

// noise: bytes of no kind, most of them small, as else few numbers are within their bounds.
func noise(source *rand.Rand, most int) []byte {
	b := make([]byte, source.IntN(most))
	for i := range b {
		b[i] = byte(source.IntN(256) >> source.IntN(8))
	}
	return b
}

func TestLoadOfNoise(t *testing.T) {
	source := rand.New(rand.NewPCG(6, 6))
	for range 20000 {
		b := noise(source, 60)
		wantPlainLoad(t, idle(1+source.IntN(2), 1+source.IntN(2)), []int{1, 2}, b)
		wantPlainLoad(t, idle(1+source.IntN(2), 1+source.IntN(2)), []int{1, 2}, headed(b))
	}
}

// TestStoppedBehindAnyStep runs models that are made up: one kernel goes through, one is saved and loaded between any two steps, and with events planned in between (P8, P14, P15).
func TestStoppedBehindAnyStep(t *testing.T) {
	source := rand.New(rand.NewPCG(2, 7))
	var reasons [6]int
	for model := range 1500 {
		m, draws := chosenModel(source), chosenDraws(source)
		k, stopped := made(t, m, draws), made(t, m, draws)
		n := &naive{m: m, draws: draws, next: 1}
		for range 15 {
			for range source.IntN(4) {
				next := n.next
				if planAlike(t, source, stopped, n); n.next > next {
					last := n.waits[len(n.waits)-1]
					k.Plan(last.Time, last.Kind, last.Entity)
				}
			}
			for range source.IntN(5) {
				l, why, _ := k.Run(1, 1000000000000)
				more, because, e := stopped.Run(1, 1000000000000)
				n.run(1, 1000000000000)
				if why != because || e != api.OK || !reflect.DeepEqual(l, more) {
					t.Fatalf("P14: model %d %v: %v, %d, want %v, %d", model, m, more, because, l, why)
				}
				reasons[why]++
				want := n.saved(len(draws) - len(n.draws))
				wantSave(t, k, want)
				wantSave(t, stopped, want)
				stopped = loaded(t, m, draws, want)
				wantAlike(t, stopped, n)
			}
		}
		if t.Failed() {
			t.Fatalf("model %d: %v", model, m)
		}
	}
	for why, count := range reasons {
		if count < 100 && why != api.Horizon {
			t.Errorf("only %d steps end by %d: too few to tell", count, why)
		}
	}
}

// TestStoppedRunsGoOn: the records of the two halves of a run are those of the whole (P14).
func TestStoppedRunsGoOn(t *testing.T) {
	m := of(2, code(in(api.Draw, 0, 4), in(api.Plan, 1, 1, 0), in(api.Draw, 1, 6), in(api.Plan, 0, 0, 1), in(api.Tell, 3)), code(in(api.Draw, 2, 3), in(api.Drop, 2), in(api.Skip, 2, 1), in(api.Plan, 1, 0, 2), in(api.Tell, 2)))
	draws := make([]int, 400)
	for i := range draws {
		draws[i] = (i*i*31 + 7*i) % 97
	}
	start := func() *tempo.Kernel {
		k := made(t, m, draws)
		planned(t, k, 3, 9)
		return k
	}
	whole := start()
	all, because, _ := whole.Run(100, 1000)
	if len(all) < 50 {
		t.Fatalf("only %d steps: too few to tell", len(all))
	}
	for n := range len(all) + 1 {
		k := start()
		l, _, _ := k.Run(n, 1000)
		k = loaded(t, m, draws, k.Save())
		more, why, e := k.Run(100-n, 1000)
		if !reflect.DeepEqual(append(l, more...), all) || why != because || e != api.OK || !bytes.Equal(k.Save(), whole.Save()) {
			t.Errorf("P14: stopped behind %d steps: %v and %v, %d, want %v, %d", n, l, more, why, all, because)
		}
	}
}
