package model

import (
	"math"
	"reflect"
	"slices"
	"testing"

	"tempo/api"
)

type span struct{ low, high int }

var (
	nothing  = span{0, 0}
	register = span{0, 3}
	kind     = span{0, 2}
	entity   = span{0, 4}
)

// threeKinds: a model of five entities and three kinds, the last of which has this code.
func threeKinds(code ...api.Instr) api.Model {
	return api.Model{Entities: 5, Kinds: [][]api.Instr{nil, {{Op: api.Tell}}, code}}
}

func wantCheck(t *testing.T, m api.Model, e api.Errno, kind, place int) {
	t.Helper()
	if ge, gk, gp := Check(m); ge != e || gk != kind || gp != place {
		t.Errorf("P2: Check(%v) = %d, %d, %d, want %d, %d, %d", m, ge, gk, gp, e, kind, place)
	}
}

// Each operand of each instruction is tried at its bounds and beyond them, with the others as they may be.
func TestOperands(t *testing.T) {
	for op, spans := range map[int][3]span{
		api.Set:  {register, {-1000000000, 1000000000}, nothing},
		api.Add:  {register, register, nothing},
		api.Sub:  {register, register, nothing},
		api.Draw: {register, {1, 1000000000}, nothing},
		api.Skip: {register, {1, 16}, nothing},
		api.Plan: {kind, entity, register},
		api.Drop: {register, nothing, nothing},
		api.Tell: {register, nothing, nothing},
	} {
		for place, s := range spans {
			for _, n := range []int{math.MinInt, s.low - 1, s.low, s.high, s.high + 1, math.MaxInt} {
				o := [3]int{spans[0].high, spans[1].high, spans[2].high}
				o[place] = n
				m := threeKinds(api.Instr{Op: api.Tell}, api.Instr{Op: op, A: o[0], B: o[1], C: o[2]})
				if s.low <= n && n <= s.high {
					wantCheck(t, m, api.OK, 0, 0)
				} else {
					wantCheck(t, m, api.ErrModel, 2, 1)
				}
			}
		}
	}
}

func TestNoInstruction(t *testing.T) {
	for _, op := range []int{math.MinInt, -1, 0, 9, math.MaxInt} {
		wantCheck(t, threeKinds(api.Instr{Op: op}), api.ErrModel, 2, 0)
	}
}

func TestHowMany(t *testing.T) {
	for _, n := range []int{math.MinInt, -1, 0, 9, math.MaxInt} {
		wantCheck(t, api.Model{Entities: n, Kinds: [][]api.Instr{nil}}, api.ErrModel, 0, 0)
	}
	for _, n := range []int{1, 8} {
		wantCheck(t, api.Model{Entities: n, Kinds: [][]api.Instr{nil}}, api.OK, 0, 0)
		wantCheck(t, api.Model{Entities: 1, Kinds: make([][]api.Instr, n)}, api.OK, 0, 0)
	}
	for _, n := range []int{0, 9, 5000} {
		wantCheck(t, api.Model{Entities: 1, Kinds: make([][]api.Instr, n)}, api.ErrModel, 0, 0)
	}
	tells := slices.Repeat([]api.Instr{{Op: api.Tell}}, 17)
	wantCheck(t, threeKinds(tells[:16]...), api.OK, 0, 0)
	wantCheck(t, threeKinds(tells...), api.ErrModel, 2, 0)
}

func TestWhichFaultIsFirst(t *testing.T) {
	bad := api.Instr{Op: api.Tell, A: 4}
	good := api.Instr{Op: api.Tell}
	long := append(slices.Repeat([]api.Instr{good}, 16), bad)
	with := func(kinds ...[]api.Instr) api.Model { return api.Model{Entities: 1, Kinds: kinds} }
	wantCheck(t, with([]api.Instr{good, good, bad, bad}), api.ErrModel, 0, 2)
	wantCheck(t, with(nil, []api.Instr{good, bad}, long, []api.Instr{bad}), api.ErrModel, 1, 1)
	wantCheck(t, with(nil, long, []api.Instr{bad}), api.ErrModel, 1, 0)
	wantCheck(t, with(slices.Repeat([][]api.Instr{{good, bad}}, 9)...), api.ErrModel, 0, 0)
	wantCheck(t, api.Model{Entities: 0, Kinds: [][]api.Instr{nil, {good, bad}}}, api.ErrModel, 0, 0)
}

// The document's own two examples.
func TestExamples(t *testing.T) {
	wantCheck(t, api.Model{Entities: 1, Kinds: [][]api.Instr{{{Op: api.Set, A: 4}}}}, api.ErrModel, 0, 0)
	wantCheck(t, api.Model{Entities: 1, Kinds: [][]api.Instr{{{Op: api.Tell}, {Op: api.Plan, A: 1}}}}, api.ErrModel, 0, 1)
}

func TestAreDraws(t *testing.T) {
	for _, c := range []struct {
		draws []int
		want  bool
	}{
		{nil, true}, {[]int{0, 1000000000, 5}, true}, {make([]int, 1000), true}, {make([]int, 1001), false},
		{[]int{-1}, false}, {[]int{0, 1000000001}, false}, {[]int{math.MinInt}, false}, {[]int{3, 3, math.MaxInt}, false},
	} {
		if got := AreDraws(c.draws); got != c.want {
			t.Errorf("P3: AreDraws of %d draws = %v, want %v", len(c.draws), got, c.want)
		}
	}
}

func TestCopySharesNothing(t *testing.T) {
	m := threeKinds(api.Instr{Op: api.Set, A: 1, B: 7})
	c := Copy(m)
	if !reflect.DeepEqual(c.Kinds[1:], m.Kinds[1:]) || len(c.Kinds) != 3 || len(c.Kinds[0]) != 0 || c.Entities != 5 {
		t.Errorf("P1: Copy(%v) = %v", m, c)
	}
	m.Kinds[2][0] = api.Instr{}
	m.Kinds[1] = nil
	if c.Kinds[2][0] != (api.Instr{Op: api.Set, A: 1, B: 7}) || len(c.Kinds[1]) != 1 {
		t.Errorf("P1: a copy follows what it was made of: %v", c)
	}
}

func TestCut(t *testing.T) {
	for _, c := range [][2]int{{0, 0}, {-7, -7}, {1000000000, 1000000000}, {1000000001, 1000000000}, {-1000000000, -1000000000}, {-1000000001, -1000000000}, {math.MaxInt, 1000000000}, {math.MinInt, -1000000000}} {
		if got := Cut(c[0]); got != c[1] {
			t.Errorf("P5: Cut(%d) = %d, want %d", c[0], got, c[1])
		}
	}
}

func TestAreValues(t *testing.T) {
	for _, c := range []struct {
		l    []int
		want bool
	}{
		{nil, true}, {[]int{}, true}, {[]int{-1000000000, 0, 1000000000}, true},
		{[]int{1000000001}, false}, {[]int{-1000000001, 0}, false}, {[]int{0, 0, 1000000001}, false},
		{[]int{math.MinInt}, false}, {[]int{0, math.MaxInt, 0}, false},
	} {
		if got := AreValues(c.l); got != c.want {
			t.Errorf("P10: AreValues(%v) = %v, want %v", c.l, got, c.want)
		}
	}
}
