package tempo_test

import (
	"math"
	"reflect"
	"slices"
	"testing"

	"tempo/api"
	"tempo/tempo"
)

// far: numbers at and beyond the bounds of all that is counted.
var far = []int{math.MinInt, math.MinInt + 1, -api.MaxTime, -api.MaxValue - 1, -api.MaxValue, -1, 0, 1, 3, 4, 7, 8, 9, 16, 17, api.MaxValue, api.MaxValue + 1, api.MaxTime, api.MaxTime + 1, math.MaxInt - 1, math.MaxInt}

func idle(entities, kinds int) api.Model {
	return api.Model{Entities: entities, Kinds: make([][]api.Instr, kinds)}
}

func made(t *testing.T, m api.Model, draws []int) *tempo.Kernel {
	t.Helper()
	k, e := tempo.New(m, draws)
	if k == nil || e != api.OK {
		t.Fatalf("P3: New(%v, %v) = %v, %d", m, draws, k, e)
	}
	return k
}

func wantNow(t *testing.T, k *tempo.Kernel, clock, waits, left int) {
	t.Helper()
	if a, b, c := k.Now(); a != clock || b != waits || c != left {
		t.Errorf("P7: Now() = %d, %d, %d, want %d, %d, %d", a, b, c, clock, waits, left)
	}
}

func TestCheckAndNewAgree(t *testing.T) {
	for _, c := range []struct {
		m           api.Model
		e           api.Errno
		kind, place int
	}{
		{idle(1, 1), api.OK, 0, 0},
		{idle(8, 8), api.OK, 0, 0},
		{idle(9, 1), api.ErrModel, 0, 0},
		{idle(1, 9), api.ErrModel, 0, 0},
		{api.Model{}, api.ErrModel, 0, 0},
		{api.Model{Entities: 1, Kinds: [][]api.Instr{nil, {{Op: api.Tell}, {Op: api.Tell, B: 1}}}}, api.ErrModel, 1, 1},
		{api.Model{Entities: 1, Kinds: [][]api.Instr{nil, make([]api.Instr, 17)}}, api.ErrModel, 1, 0},
	} {
		if e, kind, place := tempo.Check(c.m); e != c.e || kind != c.kind || place != c.place {
			t.Errorf("P2: Check(%v) = %d, %d, %d, want %d, %d, %d", c.m, e, kind, place, c.e, c.kind, c.place)
		}
		if k, e := tempo.New(c.m, nil); e != c.e || (k == nil) != (e != api.OK) {
			t.Errorf("P3: New(%v) = %v, %d, want %d", c.m, k, e, c.e)
		}
	}
}

func TestNewWithDraws(t *testing.T) {
	for _, draws := range [][]int{nil, {}, {0}, {1000000000, 0, 7}, make([]int, 1000)} {
		wantNow(t, made(t, idle(1, 1), draws), 0, 0, len(draws))
	}
	for _, draws := range [][]int{{-1}, {7, 1000000001}, {math.MinInt}, {math.MaxInt}, make([]int, 1001)} {
		if k, e := tempo.New(idle(1, 1), draws); k != nil || e != api.ErrArg {
			t.Errorf("P3: New with %d draws = %v, %d, want ErrArg", len(draws), k, e)
		}
		if k, e := tempo.New(idle(0, 1), draws); k != nil || e != api.ErrModel {
			t.Errorf("P1: New with no model and %d wrong draws = %v, %d, want ErrModel", len(draws), k, e)
		}
	}
}

func TestNewKernelIsAtItsStart(t *testing.T) {
	k := made(t, idle(8, 2), []int{1, 2})
	wantNow(t, k, 0, 0, 2)
	for entity := range 8 {
		for r := range 4 {
			if n, e := k.Register(entity, r); n != 0 || e != api.OK {
				t.Errorf("P7: Register(%d, %d) = %d, %d, want 0", entity, r, n, e)
			}
		}
	}
	if n, e := k.Plan(0, 1, 7); n != 1 || e != api.OK {
		t.Errorf("P4: the first Plan = %d, %d, want 1", n, e)
	}
}

func TestPlanAndRegisterAtAllNumbers(t *testing.T) {
	for _, a := range far {
		for _, b := range far {
			wantRegister(t, made(t, idle(8, 8), nil), a, b)
			for _, c := range far {
				wantPlan(t, made(t, idle(8, 8), nil), a, b, c)
			}
		}
	}
}

func wantRegister(t *testing.T, k *tempo.Kernel, entity, r int) {
	t.Helper()
	want := api.ErrArg
	if entity >= 0 && entity < 8 && r >= 0 && r < 4 {
		want = api.OK
	}
	if n, e := k.Register(entity, r); n != 0 || e != want {
		t.Errorf("P7: Register(%d, %d) = %d, %d, want 0, %d", entity, r, n, e, want)
	}
}

func wantPlan(t *testing.T, k *tempo.Kernel, time, kind, entity int) {
	t.Helper()
	number, want := 0, api.ErrArg
	if time >= 0 && time <= 1000000000000 && kind >= 0 && kind < 8 && entity >= 0 && entity < 8 {
		number, want = 1, api.OK
	}
	if n, e := k.Plan(time, kind, entity); n != number || e != want {
		t.Errorf("P4: Plan(%d, %d, %d) = %d, %d, want %d, %d", time, kind, entity, n, e, number, want)
	}
	wantNow(t, k, 0, number, 0)
}

func TestPlanUntilFull(t *testing.T) {
	k := made(t, idle(1, 1), nil)
	for n := 1; n <= 16; n++ {
		if got, e := k.Plan(100-n, 0, 0); got != n || e != api.OK {
			t.Errorf("P4: Plan = %d, %d, want %d", got, e, n)
		}
		wantNow(t, k, 0, n, 0)
	}
	if n, e := k.Plan(5, 0, 0); n != 0 || e != api.ErrFull {
		t.Errorf("P4: Plan of a seventeenth event = %d, %d, want ErrFull", n, e)
	}
	if n, e := k.Plan(-1, 0, 0); n != 0 || e != api.ErrArg {
		t.Errorf("P1: Plan of a seventeenth event too early = %d, %d, want ErrArg", n, e)
	}
	wantNow(t, k, 0, 16, 0)
}

func TestNothingHandedInIsWrittenInto(t *testing.T) {
	code := slices.Repeat([]api.Instr{{Op: api.Set, A: 1, B: 2}}, 4)
	kinds := slices.Repeat([][]api.Instr{code[:2]}, 3)
	draws := []int{1, 2, 3, 4}
	m := api.Model{Entities: 1, Kinds: kinds[:1]}
	tempo.Check(m)
	k := made(t, m, draws[:2])
	k.Plan(1, 0, 0)
	if !reflect.DeepEqual(code, slices.Repeat([]api.Instr{{Op: api.Set, A: 1, B: 2}}, 4)) || !reflect.DeepEqual(kinds, slices.Repeat([][]api.Instr{code[:2]}, 3)) || !reflect.DeepEqual(draws, []int{1, 2, 3, 4}) {
		t.Errorf("P1: what was handed in is now %v, %v, %v", code, kinds, draws)
	}
}

func TestTheCallerMayWriteIntoTheModel(t *testing.T) {
	m := idle(2, 2)
	k := made(t, m, []int{5})
	m.Kinds[1] = make([]api.Instr, 99)
	m.Entities, m.Kinds = 1, m.Kinds[:1]
	if n, e := k.Plan(3, 1, 1); n != 1 || e != api.OK {
		t.Errorf("P1: Plan behind a change of the model = %d, %d, want 1", n, e)
	}
}

func TestKernelsAreOnTheirOwn(t *testing.T) {
	m, draws := idle(1, 1), []int{5, 6}
	a, b := made(t, m, draws), made(t, m, draws)
	for range 16 {
		a.Plan(9, 0, 0)
	}
	wantNow(t, b, 0, 0, 2)
	if n, e := b.Plan(9, 0, 0); n != 1 || e != api.OK {
		t.Errorf("P1: Plan of another kernel = %d, %d, want 1", n, e)
	}
	wantNow(t, a, 0, 16, 2)
}
