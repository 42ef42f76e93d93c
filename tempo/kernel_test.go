package tempo

import (
	"reflect"
	"testing"

	"tempo/api"
	"tempo/model"
	"tempo/queue"
)

// Tests of what the calls can't show or soon reach from outside: all that a kernel holds, and numbers that are used up.

func kernel(t *testing.T, m api.Model, draws ...int) *Kernel {
	t.Helper()
	k, e := New(m, draws)
	if k == nil || e != api.OK {
		t.Fatalf("P3: New(%v, %v) = %v, %d", m, draws, k, e)
	}
	return k
}

func twoKinds() api.Model {
	return api.Model{Entities: 3, Kinds: [][]api.Instr{{{Op: api.Tell, A: 2}}, {{Op: api.Draw, A: 1, B: 6}, {Op: api.Plan, A: 1, B: 2, C: 1}}}}
}

func wantPlan(t *testing.T, k *Kernel, time, kind, entity, number int, e api.Errno) {
	t.Helper()
	if n, ge := k.Plan(time, kind, entity); n != number || ge != e {
		t.Errorf("P4: Plan(%d, %d, %d) = %d, %d, want %d, %d", time, kind, entity, n, ge, number, e)
	}
}

func TestPlanBehindTheClock(t *testing.T) {
	k := kernel(t, twoKinds())
	k.clock = 16
	wantPlan(t, k, 9, 0, 0, 0, api.ErrArg)
	wantPlan(t, k, 15, 0, 0, 0, api.ErrArg)
	wantPlan(t, k, 16, 0, 0, 1, api.OK)
	k.clock = api.MaxTime
	wantPlan(t, k, api.MaxTime-1, 0, 0, 0, api.ErrArg)
	wantPlan(t, k, api.MaxTime, 0, 0, 2, api.OK)
	wantPlan(t, k, api.MaxTime+1, 0, 0, 0, api.ErrArg)
}

func TestNumbersAreUsedUp(t *testing.T) {
	k := kernel(t, twoKinds())
	k.next = api.MaxValue - 1
	wantPlan(t, k, 5, 1, 2, api.MaxValue-1, api.OK)
	wantPlan(t, k, 5, 1, 2, 0, api.ErrFull)
	wantPlan(t, k, 5, 2, 2, 0, api.ErrArg)
	if _, waits, _ := k.Now(); waits != 1 || k.next != api.MaxValue {
		t.Errorf("P4: %d events wait, the next number is %d", waits, k.next)
	}
}

func TestPlannedAsAsked(t *testing.T) {
	k, want := kernel(t, twoKinds()), queue.New()
	wantPlan(t, k, 40, 1, 2, 1, api.OK)
	wantPlan(t, k, 30, 0, 1, 2, api.OK)
	want.Put(queue.Event{Number: 1, Time: 40, Kind: 1, Entity: 2})
	want.Put(queue.Event{Number: 2, Time: 30, Kind: 0, Entity: 1})
	if !reflect.DeepEqual(k.waits, want) {
		t.Errorf("P4: %v waits, want %v", k.waits, want)
	}
}

func TestAnErrorChangesNothing(t *testing.T) {
	k, same := kernel(t, twoKinds(), 4, 5), kernel(t, twoKinds(), 4, 5)
	for n := 1; n <= api.MaxQueue; n++ {
		wantPlan(t, k, n, 0, 0, n, api.OK)
		wantPlan(t, same, n, 0, 0, n, api.OK)
	}
	wantPlan(t, k, 7, 0, 0, 0, api.ErrFull)
	wantPlan(t, k, -1, 0, 0, 0, api.ErrArg)
	wantPlan(t, k, 7, 2, 0, 0, api.ErrArg)
	wantPlan(t, k, 7, 0, 3, 0, api.ErrArg)
	k.Register(3, 0)
	k.Run(-1, api.MaxTime)
	k.Run(api.MaxSteps+1, api.MaxTime)
	if !reflect.DeepEqual(k, same) {
		t.Errorf("P1: an error changed the kernel: %v, want %v", k, same)
	}
}

func TestNowAndRegisterTellWhatIs(t *testing.T) {
	k := kernel(t, twoKinds(), 4, 5, 6)
	k.clock, k.taken = 70, 2
	k.registers[2][3], k.registers[0][1] = -9, 8
	wantPlan(t, k, 70, 0, 0, 1, api.OK)
	if clock, waits, left := k.Now(); clock != 70 || waits != 1 || left != 1 {
		t.Errorf("P7: Now() = %d, %d, %d, want 70, 1, 1", clock, waits, left)
	}
	for _, c := range [][3]int{{2, 3, -9}, {0, 1, 8}, {0, 0, 0}, {1, 3, 0}} {
		if n, e := k.Register(c[0], c[1]); n != c[2] || e != api.OK {
			t.Errorf("P7: Register(%d, %d) = %d, %d, want %d", c[0], c[1], n, e, c[2])
		}
	}
}

func TestNothingHandedInIsKept(t *testing.T) {
	m, draws := twoKinds(), []int{4, 5, 6}
	k := kernel(t, m, draws...)
	clear(draws)
	clear(m.Kinds[1])
	m.Kinds[0] = nil
	if !reflect.DeepEqual(k.draws, []int{4, 5, 6}) || !reflect.DeepEqual(k.model, model.Copy(twoKinds())) {
		t.Errorf("P1: the kernel follows what was handed in: %v, %v", k.draws, k.model)
	}
}

// wantStopped runs a kernel whose next step is stopped: it must be left as it was.
func wantStopped(t *testing.T, k *Kernel, because int) {
	t.Helper()
	same := &Kernel{model: model.Copy(k.model), draws: append([]int(nil), k.draws...), waits: queue.New(), state: k.state}
	same.waits.Become(k.waits)
	if l, why, e := k.Run(5, api.MaxTime); len(l) != 0 || why != because || e != api.OK {
		t.Errorf("P6: Run = %v, %d, %d, want nothing, %d", l, why, e, because)
	}
	if !reflect.DeepEqual(k, same) {
		t.Errorf("P5: a stopped step changed the kernel: %v, want %v", k, same)
	}
}

func TestAStoppedStepChangesNothing(t *testing.T) {
	busy := []api.Instr{{Op: api.Draw, A: 1, B: 6}, {Op: api.Drop, A: 1}, {Op: api.Plan, A: 1, B: 2, C: 1}, {Op: api.Add, A: 3, B: 3}, {Op: api.Tell, A: 1}}
	plan, far, draw := api.Instr{Op: api.Plan}, api.Instr{Op: api.Set, A: 0, B: api.MaxValue}, api.Instr{Op: api.Draw, A: 2, B: 1}
	for _, c := range []struct {
		ends []api.Instr
		why  int
	}{
		{[]api.Instr{plan, plan, plan, plan}, api.Full},
		{[]api.Instr{far, plan}, api.Late},
		{[]api.Instr{draw, draw}, api.Dry},
	} {
		k := kernel(t, api.Model{Entities: 3, Kinds: [][]api.Instr{append(busy, c.ends...), nil}}, 4, 5)
		k.registers[1] = [api.Registers]int{5, 7, 8, 9}
		for n := 1; n <= 14; n++ {
			wantPlan(t, k, api.MaxTime-n%4, n%2, n%3, n, api.OK)
		}
		wantPlan(t, k, api.MaxTime-5, 0, 1, 15, api.OK)
		wantStopped(t, k, c.why)
	}
}

func TestAStepUsesNumbersUp(t *testing.T) {
	k := kernel(t, api.Model{Entities: 1, Kinds: [][]api.Instr{{{Op: api.Plan}, {Op: api.Tell, A: 3}}, {{Op: api.Set, A: 0, B: 1}, {Op: api.Plan}}}})
	wantPlan(t, k, 3, 0, 0, 1, api.OK)
	k.next = api.MaxValue - 1
	want := []api.Record{{Number: 1, Time: 3, Told: []int{api.MaxValue - 1}}}
	if l, why, e := k.Run(1, 3); !reflect.DeepEqual(l, want) || why != api.Ran || e != api.OK {
		t.Errorf("P5: Run = %v, %d, %d, want %v", l, why, e, want)
	}
	wantStopped(t, k, api.Full)
	k.waits = queue.New()
	k.waits.Put(queue.Event{Number: 2, Time: api.MaxTime, Kind: 1})
	wantStopped(t, k, api.Full) // ahead of Late
	k.next--
	wantStopped(t, k, api.Late)
}

func TestNothingIsKeptOfARun(t *testing.T) {
	// Each step plans two events and takes one of them back, so that one waits whatever was planned.
	k := kernel(t, api.Model{Entities: 1, Kinds: [][]api.Instr{{{Op: api.Set, A: 0, B: 1}, {Op: api.Plan}, {Op: api.Set, A: 1, B: api.MaxValue}, {Op: api.Plan, C: 1}, {Op: api.Drop, A: 3}}}})
	wantPlan(t, k, 0, 0, 0, 1, api.OK)
	if l, why, e := k.Run(api.MaxSteps, api.MaxTime); len(l) != api.MaxSteps || why != api.Ran || e != api.OK {
		t.Errorf("P6: Run = %d records, %d, %d", len(l), why, e)
	}
	want := queue.New()
	want.Put(queue.Event{Number: 2 * api.MaxSteps, Time: api.MaxSteps})
	if !reflect.DeepEqual(k.waits, want) || k.next != 2*api.MaxSteps+2 {
		t.Errorf("P5: %v waits, want %v; the next number is %d", k.waits, want, k.next)
	}
}
