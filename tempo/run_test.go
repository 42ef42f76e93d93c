package tempo_test

import (
	"math"
	"reflect"
	"testing"

	"tempo/api"
	"tempo/tempo"
)

func in(op int, abc ...int) api.Instr {
	abc = append(abc, 0, 0)
	return api.Instr{Op: op, A: abc[0], B: abc[1], C: abc[2]}
}

func of(entities int, kinds ...[]api.Instr) api.Model {
	return api.Model{Entities: entities, Kinds: kinds}
}

func code(l ...api.Instr) []api.Instr { return l }

// planned plans events of kind 0 of entity 0.
func planned(t *testing.T, k *tempo.Kernel, times ...int) {
	t.Helper()
	for _, time := range times {
		if n, e := k.Plan(time, 0, 0); n == 0 || e != api.OK {
			t.Fatalf("P4: Plan(%d, 0, 0) = %d, %d", time, n, e)
		}
	}
}

func wantRun(t *testing.T, k *tempo.Kernel, steps, horizon, because int, want ...api.Record) {
	t.Helper()
	l, why, e := k.Run(steps, horizon)
	if len(l) != len(want) || len(l) > 0 && !reflect.DeepEqual(l, want) || why != because || e != api.OK {
		t.Errorf("P6: Run(%d, %d) = %v, %d, %d, want %v, %d", steps, horizon, l, why, e, want, because)
	}
}

func wantRegisters(t *testing.T, k *tempo.Kernel, entity int, want ...int) {
	t.Helper()
	for r, value := range want {
		if n, e := k.Register(entity, r); n != value || e != api.OK {
			t.Errorf("P5: Register(%d, %d) = %d, %d, want %d", entity, r, n, e, value)
		}
	}
}

func happened(number, time, kind, entity int, told ...int) api.Record {
	return api.Record{Number: number, Time: time, Kind: kind, Entity: entity, Told: told}
}

// exampleModel: the document's own.
func exampleModel() api.Model {
	return of(1, code(in(api.Add, 0, 1), in(api.Tell, 0), in(api.Plan, 0, 0, 2)), code(in(api.Set, 1, 5), in(api.Set, 2, 3), in(api.Plan, 0, 0, 2)))
}

func TestTheExampleOfARun(t *testing.T) {
	k := made(t, exampleModel(), nil)
	if n, e := k.Plan(10, 1, 0); n != 1 || e != api.OK {
		t.Fatalf("P4: Plan(10, 1, 0) = %d, %d", n, e)
	}
	wantRun(t, k, 3, 100, api.Ran, happened(1, 10, 1, 0), happened(2, 13, 0, 0, 5), happened(3, 16, 0, 0, 10))
	wantNow(t, k, 16, 1, 0)
	if n, e := k.Plan(9, 0, 0); n != 0 || e != api.ErrArg {
		t.Errorf("P4: Plan(9, 0, 0) behind a clock of 16 = %d, %d", n, e)
	}
	wantRun(t, k, 9, 20, api.Horizon, happened(4, 19, 0, 0, 15))
	wantRun(t, k, 0, 0, api.Ran)
}

// TestInstructions does the instructions of one kind in one step, at entity 1, with the draws 17 and 1000000000.
func TestInstructions(t *testing.T) {
	most, least := 1000000000, -1000000000
	for _, c := range []struct {
		code []api.Instr
		told []int
		ends []int // the registers, behind it
	}{
		{nil, nil, []int{0, 0, 0, 0}},
		{code(in(api.Set, 0, most), in(api.Set, 3, least), in(api.Set, 1, 5), in(api.Set, 1, 6)), nil, []int{most, 6, 0, least}},
		{code(in(api.Set, 0, 7), in(api.Set, 1, -9), in(api.Add, 0, 1), in(api.Tell, 0), in(api.Tell, 1)), []int{-2, -9}, []int{-2, -9}},
		{code(in(api.Set, 0, 7), in(api.Set, 1, -9), in(api.Sub, 0, 1), in(api.Tell, 0)), []int{16}, []int{16, -9}},
		{code(in(api.Set, 0, 3), in(api.Add, 0, 0), in(api.Tell, 0), in(api.Sub, 0, 0), in(api.Tell, 0)), []int{6, 0}, []int{0}},
		{code(in(api.Set, 0, most), in(api.Set, 1, 1), in(api.Add, 0, 1), in(api.Sub, 0, 1)), nil, []int{most - 1, 1}},
		{code(in(api.Set, 0, least), in(api.Set, 1, 1), in(api.Sub, 0, 1), in(api.Add, 0, 1)), nil, []int{least + 1, 1}},
		{code(in(api.Set, 0, most-1), in(api.Set, 1, 1), in(api.Add, 0, 1), in(api.Tell, 0), in(api.Add, 0, 0), in(api.Tell, 0)), []int{most, most}, []int{most}},
		{code(in(api.Draw, 2, 5), in(api.Draw, 1, most)), nil, []int{0, 0, 2, 0}},
		{code(in(api.Draw, 2, 17), in(api.Tell, 2), in(api.Draw, 2, 999999999), in(api.Tell, 2)), []int{0, 1}, []int{0, 0, 1}},
		{code(in(api.Draw, 2, 18), in(api.Tell, 2), in(api.Draw, 3, 1), in(api.Tell, 3)), []int{17, 0}, []int{0, 0, 17, 0}},
		{code(in(api.Skip, 0, 1), in(api.Tell, 0), in(api.Set, 0, 1), in(api.Skip, 0, 1), in(api.Tell, 0)), []int{1}, []int{1}},
		{code(in(api.Set, 0, -1), in(api.Skip, 0, 2), in(api.Tell, 0), in(api.Tell, 0), in(api.Tell, 1)), []int{0}, []int{-1}},
		{code(in(api.Tell, 0), in(api.Skip, 0, 16), in(api.Tell, 0)), []int{0}, []int{0}},
		{code(in(api.Tell, 0), in(api.Skip, 0, 1)), []int{0}, []int{0}},
		{code(in(api.Skip, 0, 2), in(api.Skip, 0, 9), in(api.Tell, 0), in(api.Tell, 1), in(api.Tell, 2)), []int{0, 0}, []int{0}},
		{code(in(api.Skip, 0, 1), in(api.Draw, 0, 7), in(api.Draw, 0, 7)), nil, []int{3}},
		{code(in(api.Drop, 0), in(api.Set, 1, -5), in(api.Drop, 1), in(api.Set, 1, most), in(api.Drop, 1), in(api.Tell, 1)), []int{most}, []int{0, most}},
	} {
		k := made(t, of(3, nil, c.code), []int{17, 1000000000})
		k.Plan(4, 1, 1)
		wantRun(t, k, 1, 4, api.Ran, happened(1, 4, 1, 1, c.told...))
		wantRegisters(t, k, 1, c.ends...)
		wantRegisters(t, k, 0, 0, 0, 0, 0)
		wantRegisters(t, k, 2, 0, 0, 0, 0)
	}
}

func TestDrawsAreTakenOneBehindTheOther(t *testing.T) {
	k := made(t, of(2, code(in(api.Draw, 0, 100), in(api.Tell, 0))), []int{250, 31, 7})
	for i, entity := range []int{0, 1, 0, 1} {
		k.Plan(i, 0, entity)
	}
	wantRun(t, k, 2, 9, api.Ran, happened(1, 0, 0, 0, 50), happened(2, 1, 0, 1, 31))
	wantNow(t, k, 1, 2, 1)
	wantRun(t, k, 2, 9, api.Dry, happened(3, 2, 0, 0, 7))
	wantNow(t, k, 2, 1, 0)
	wantRegisters(t, k, 0, 7)
	wantRegisters(t, k, 1, 31)
}

func TestAStepPlans(t *testing.T) {
	plans := code(in(api.Set, 0, -1), in(api.Plan, 1, 2, 0), in(api.Tell, 3), in(api.Plan, 2, 1, 1), in(api.Tell, 3), in(api.Set, 3, 5), in(api.Plan, 1, 0, 3), in(api.Tell, 3))
	k := made(t, of(3, plans, nil, nil), nil)
	planned(t, k, 20)
	wantRun(t, k, 9, 100, api.Empty, happened(1, 20, 0, 0, 2, 3, 4), happened(2, 20, 1, 2), happened(3, 20, 2, 1), happened(4, 25, 1, 0))
	wantRegisters(t, k, 0, -1, 0, 0, 4) // the last register of the event's entity, not of the planned one's
	wantRegisters(t, k, 1, 0, 0, 0, 0)
	wantRegisters(t, k, 2, 0, 0, 0, 0)
}

func TestEventsOfOneTime(t *testing.T) {
	k := made(t, of(1, code(in(api.Plan, 1, 0, 0)), nil), nil)
	planned(t, k, 3, 2, 3, 2, 3)
	wantRun(t, k, 99, 2, api.Horizon, happened(2, 2, 0, 0), happened(4, 2, 0, 0), happened(6, 2, 1, 0), happened(7, 2, 1, 0))
	planned(t, k, 2)
	wantRun(t, k, 2, 9, api.Ran, happened(8, 2, 0, 0), happened(9, 2, 1, 0))
	wantRun(t, k, 4, 9, api.Ran, happened(1, 3, 0, 0), happened(3, 3, 0, 0), happened(5, 3, 0, 0), happened(10, 3, 1, 0))
}

func TestEventsTakenBack(t *testing.T) {
	// Kind 1 takes back the event whose number is told by the draw, twice; kind 2 what it has planned.
	k := made(t, of(1, nil, code(in(api.Draw, 0, 1000), in(api.Drop, 0), in(api.Drop, 0)), code(in(api.Plan, 0, 0, 1), in(api.Plan, 0, 0, 1), in(api.Drop, 3), in(api.Tell, 3))), []int{3, 6, 5, 77, 0})
	planned(t, k, 8, 7, 7, 8)
	for n := 5; n <= 9; n++ {
		k.Plan(n-5, 1, 0) // 6 would take back itself, had it not happened; 5 has happened; 77 and 0 never were
	}
	wantRun(t, k, 1, 9, api.Ran, happened(5, 0, 1, 0))
	wantNow(t, k, 0, 7, 4)
	wantRun(t, k, 5, 9, api.Ran, happened(6, 1, 1, 0), happened(7, 2, 1, 0), happened(8, 3, 1, 0), happened(9, 4, 1, 0), happened(2, 7, 0, 0))
	wantNow(t, k, 7, 2, 0)
	k.Plan(7, 2, 0)
	wantRun(t, k, 9, 9, api.Empty, happened(10, 7, 2, 0, 12), happened(11, 7, 0, 0), happened(1, 8, 0, 0), happened(4, 8, 0, 0))
}

func TestTheNextEventIsTakenBack(t *testing.T) {
	k := made(t, of(1, code(in(api.Set, 0, 2), in(api.Drop, 0), in(api.Tell, 0))), nil)
	planned(t, k, 5, 6)
	wantRun(t, k, 2, 9, api.Empty, happened(1, 5, 0, 0, 2))
	wantNow(t, k, 5, 0, 0)
}

func TestTheOwnEventLeavesRoom(t *testing.T) {
	k := made(t, of(1, code(in(api.Set, 0, 50), in(api.Plan, 1, 0, 0)), nil), nil)
	for n := 1; n <= 16; n++ {
		k.Plan(n, 0, 0)
	}
	wantRun(t, k, 2, 99, api.Ran, happened(1, 1, 0, 0), happened(2, 2, 0, 0))
	wantNow(t, k, 2, 16, 0)
	k = made(t, of(1, code(in(api.Set, 0, 50), in(api.Plan, 1, 0, 0), in(api.Plan, 1, 0, 0)), nil), nil)
	for n := 1; n <= 16; n++ {
		k.Plan(n, 0, 0)
	}
	wantRun(t, k, 2, 99, api.Full)
	wantNow(t, k, 0, 16, 0)
	wantRegisters(t, k, 0, 0, 0, 0, 0)
}

func TestWhatIsTakenBackLeavesRoom(t *testing.T) {
	twice := code(in(api.Set, 0, 9), in(api.Drop, 0), in(api.Plan, 1, 0, 0), in(api.Plan, 1, 0, 0))
	k := made(t, of(1, twice, nil), nil)
	for n := 1; n <= 16; n++ {
		k.Plan(n, 0, 0)
	}
	wantRun(t, k, 2, 99, api.Full, happened(1, 1, 0, 0)) // there is no event 9 to be taken back a second time
	wantNow(t, k, 1, 16, 0)
}

func TestLate(t *testing.T) {
	k := made(t, of(1, code(in(api.Set, 0, 1000000000), in(api.Plan, 1, 0, 0)), nil), nil)
	planned(t, k, 999000000000, 999000000001)
	wantRun(t, k, 2, math.MaxInt, api.Late, happened(1, 999000000000, 0, 0))
	wantNow(t, k, 999000000000, 2, 0)
	k = made(t, of(1, code(in(api.Tell, 1), in(api.Plan, 0, 0, 1), in(api.Set, 1, 1))), nil)
	planned(t, k, 1000000000000)
	wantRun(t, k, 9, 1000000000000, api.Late, happened(1, 1000000000000, 0, 0, 0))
	wantRegisters(t, k, 0, 0, 1, 0, 2)
	wantNow(t, k, 1000000000000, 1, 0)
}

// TestWhichComesFirst stops the first step, when sixteen events wait at the last time and one draw is left.
func TestWhichComesFirst(t *testing.T) {
	full, late := code(in(api.Plan, 1, 0, 0), in(api.Plan, 1, 0, 0)), code(in(api.Set, 1, 1), in(api.Plan, 1, 0, 1))
	dry := code(in(api.Draw, 2, 3), in(api.Draw, 2, 3))
	both := code(in(api.Set, 1, 1), in(api.Plan, 1, 0, 0), in(api.Plan, 1, 0, 1))
	for _, c := range []struct {
		why  int
		code [][]api.Instr
	}{
		{api.Full, [][]api.Instr{full, late, dry}},
		{api.Full, [][]api.Instr{full, dry}},
		{api.Late, [][]api.Instr{late, full, dry}},
		{api.Late, [][]api.Instr{late, dry, full}},
		{api.Dry, [][]api.Instr{dry, full, late}},
		{api.Dry, [][]api.Instr{dry, late, full}},
		{api.Full, [][]api.Instr{both}},
	} {
		var kind []api.Instr
		for _, part := range c.code {
			kind = append(kind, part...)
		}
		k := made(t, of(1, kind, nil), []int{8})
		for range 16 {
			planned(t, k, 1000000000000)
		}
		wantRun(t, k, 1, 1000000000000, c.why)
		wantNow(t, k, 0, 16, 1)
		wantRegisters(t, k, 0, 0, 0, 0, 0)
	}
}

// TestAStoppedStepIsUndone stops the second step behind all that a step can do.
func TestAStoppedStepIsUndone(t *testing.T) {
	all := code(in(api.Draw, 0, 5), in(api.Set, 1, 3), in(api.Add, 2, 1), in(api.Drop, 1), in(api.Plan, 1, 1, 1), in(api.Plan, 1, 1, 1), in(api.Drop, 3), in(api.Tell, 2), in(api.Draw, 0, 5))
	k := made(t, of(2, code(in(api.Set, 2, 7), in(api.Tell, 2)), nil, all), []int{4})
	planned(t, k, 5)
	k.Plan(6, 2, 0)
	k.Plan(8, 1, 1)
	wantRun(t, k, 9, 99, api.Dry, happened(1, 5, 0, 0, 7))
	for range 3 {
		wantRun(t, k, 9, 99, api.Dry)
		wantNow(t, k, 5, 2, 1)
		wantRegisters(t, k, 0, 0, 0, 7, 0)
	}
	wantRun(t, k, 9, 5, api.Horizon)
	if n, e := k.Plan(5, 0, 1); n != 4 || e != api.OK { // behind what would be a clock of 6 and numbers up to 5
		t.Errorf("P5: Plan behind a stopped step = %d, %d, want 4", n, e)
	}
	wantRun(t, k, 9, 99, api.Dry, happened(4, 5, 0, 1, 7))
}

func TestSteps(t *testing.T) {
	again := of(1, code(in(api.Set, 0, 1), in(api.Plan, 0, 0, 0)))
	for _, steps := range far {
		k := made(t, again, nil)
		planned(t, k, 1)
		l, why, e := k.Run(steps, math.MaxInt)
		if steps < 0 || steps > 1000 {
			if l != nil || why != 0 || e != api.ErrArg {
				t.Errorf("P6: Run(%d) = %v, %d, %d, want ErrArg", steps, l, why, e)
			}
			wantNow(t, k, 0, 1, 0)
		} else if len(l) != steps || why != api.Ran || e != api.OK {
			t.Errorf("P6: Run(%d) = %d records, %d, %d", steps, len(l), why, e)
		}
	}
	k := made(t, again, nil)
	planned(t, k, 1)
	for _, steps := range []int{999, 1000} {
		if l, why, e := k.Run(steps, math.MaxInt); len(l) != steps || why != api.Ran || e != api.OK {
			t.Errorf("P6: Run(%d) = %d records, %d, %d", steps, len(l), why, e)
		}
	}
	wantNow(t, k, 1999, 1, 0)
	if l, why, e := k.Run(1001, math.MaxInt); l != nil || why != 0 || e != api.ErrArg {
		t.Errorf("P6: Run(1001) = %d records, %d, %d, want ErrArg", len(l), why, e)
	}
	wantNow(t, k, 1999, 1, 0)
}

func TestHorizon(t *testing.T) {
	for _, horizon := range append([]int{98, 99, 100, 101}, far...) {
		k := made(t, idle(1, 1), nil)
		planned(t, k, 100)
		if horizon < 100 {
			wantRun(t, k, 2, horizon, api.Horizon)
			wantNow(t, k, 0, 1, 0)
		} else {
			wantRun(t, k, 2, horizon, api.Empty, happened(1, 100, 0, 0))
			wantNow(t, k, 100, 0, 0)
		}
	}
}

// TestRanAheadOfAll asks for just the steps that can be made: what would apply to one more is not told.
func TestRanAheadOfAll(t *testing.T) {
	again := code(in(api.Draw, 1, 1), in(api.Set, 0, 1), in(api.Plan, 0, 0, 0))
	for _, c := range []struct {
		m       api.Model
		horizon int
		why     int
	}{
		{of(1, code(in(api.Draw, 1, 1))), 9, api.Empty},
		{of(1, again), 1, api.Horizon},
		{of(1, again), 9, api.Dry},
		{of(1, code(in(api.Set, 0, 1000000000), in(api.Plan, 0, 0, 0), in(api.Draw, 1, 1))), 9, api.Horizon},
	} {
		k := made(t, c.m, []int{0})
		wantRun(t, k, 0, 9, api.Ran)
		planned(t, k, 1)
		wantRun(t, k, 0, math.MinInt, api.Ran)
		wantRun(t, k, 1, c.horizon, api.Ran, happened(1, 1, 0, 0))
		wantRun(t, k, 0, c.horizon, api.Ran)
		wantRun(t, k, 1, c.horizon, c.why)
	}
}

func TestWhatIsAskedFirst(t *testing.T) {
	k := made(t, of(1, code(in(api.Draw, 0, 1))), nil)
	wantRun(t, k, 1, math.MinInt, api.Empty) // with no event there is none above the horizon
	planned(t, k, 4)
	wantRun(t, k, 1, 3, api.Horizon) // a step that would be stopped, too
	wantRun(t, k, 1, 4, api.Dry)
	if l, why, e := k.Run(-1, 4); l != nil || why != 0 || e != api.ErrArg {
		t.Errorf("P6: Run(-1, 4) = %v, %d, %d, want ErrArg", l, why, e)
	}
}

// ruined writes into lists that came out, and into their spare room.
func ruined(l []api.Record) {
	for i := range l {
		told := l[i].Told[:cap(l[i].Told)]
		for j := range told {
			told[j] = -99
		}
	}
	l = l[:cap(l)]
	for i := range l {
		l[i] = api.Record{Number: -99, Told: []int{-99}}
	}
}

func TestWhatComesOutIsTheCallers(t *testing.T) {
	tells := code(in(api.Set, 0, 2), in(api.Tell, 0), in(api.Tell, 0), in(api.Tell, 0), in(api.Set, 1, 1), in(api.Plan, 0, 0, 1))
	k := made(t, of(1, tells), nil)
	planned(t, k, 1)
	l, _, _ := k.Run(3, 9)
	kept, _, _ := k.Run(2, 9)
	for i := range l {
		told := l[i].Told[:cap(l[i].Told)]
		for j := range told {
			told[j] = 50 + i
		}
	}
	for i, r := range l {
		if !reflect.DeepEqual(r.Told, []int{50 + i, 50 + i, 50 + i}) {
			t.Errorf("P1: what record %d told shares memory with another: %v", i, r.Told)
		}
	}
	ruined(l)
	want := []api.Record{happened(4, 4, 0, 0, 2, 2, 2), happened(5, 5, 0, 0, 2, 2, 2)}
	if !reflect.DeepEqual(kept, want) {
		t.Errorf("P1: a later answer is now %v, want %v", kept, want)
	}
	ruined(kept)
	wantRun(t, k, 1, 9, api.Ran, happened(6, 6, 0, 0, 2, 2, 2))
	wantRegisters(t, k, 0, 2, 1, 0, 7)
}

func TestRunsOfTwoKernels(t *testing.T) {
	m, draws := of(1, code(in(api.Draw, 0, 9), in(api.Tell, 0), in(api.Set, 1, 1), in(api.Plan, 0, 0, 1))), []int{3, 4, 5}
	a, b := made(t, m, draws), made(t, m, draws)
	planned(t, a, 1)
	planned(t, b, 7)
	wantRun(t, a, 2, 99, api.Ran, happened(1, 1, 0, 0, 3), happened(2, 2, 0, 0, 4))
	draws[0], m.Kinds[0][1] = 8, api.Instr{}
	wantRun(t, b, 2, 99, api.Ran, happened(1, 7, 0, 0, 3), happened(2, 8, 0, 0, 4))
	wantRun(t, a, 2, 99, api.Dry, happened(3, 3, 0, 0, 5))
	wantRegisters(t, b, 0, 4, 1, 0, 3)
	wantNow(t, b, 8, 1, 1)
}
