package tempo

import (
	"reflect"
	"testing"

	"tempo/api"
	"tempo/model"
	"tempo/queue"
)

// Tests of what the calls that are built so far can't reach from outside: a kernel whose clock, numbers, draws and registers have gone on.

func kernel(t *testing.T, m api.Model, draws ...int) *Kernel {
	t.Helper()
	k, e := New(m, draws)
	if k == nil || e != api.OK {
		t.Fatalf("P3: New(%v, %v) = %v, %d", m, draws, k, e)
	}
	return k
}

func twoKinds() api.Model {
	return api.Model{Entities: 3, Kinds: [][]api.Instr{{{Op: api.Tell, A: 2}}, {{Op: api.Draw, A: 1, B: 6}, {Op: api.Plan, A: 1, B: 2, C: 1}}}}
}

func wantPlan(t *testing.T, k *Kernel, time, kind, entity, number int, e api.Errno) {
	t.Helper()
	if n, ge := k.Plan(time, kind, entity); n != number || ge != e {
		t.Errorf("P4: Plan(%d, %d, %d) = %d, %d, want %d, %d", time, kind, entity, n, ge, number, e)
	}
}

func TestPlanBehindTheClock(t *testing.T) {
	k := kernel(t, twoKinds())
	k.clock = 16
	wantPlan(t, k, 9, 0, 0, 0, api.ErrArg)
	wantPlan(t, k, 15, 0, 0, 0, api.ErrArg)
	wantPlan(t, k, 16, 0, 0, 1, api.OK)
	k.clock = api.MaxTime
	wantPlan(t, k, api.MaxTime-1, 0, 0, 0, api.ErrArg)
	wantPlan(t, k, api.MaxTime, 0, 0, 2, api.OK)
	wantPlan(t, k, api.MaxTime+1, 0, 0, 0, api.ErrArg)
}

func TestNumbersAreUsedUp(t *testing.T) {
	k := kernel(t, twoKinds())
	k.next = api.MaxValue - 1
	wantPlan(t, k, 5, 1, 2, api.MaxValue-1, api.OK)
	wantPlan(t, k, 5, 1, 2, 0, api.ErrFull)
	wantPlan(t, k, 5, 2, 2, 0, api.ErrArg)
	if _, waits, _ := k.Now(); waits != 1 || k.next != api.MaxValue {
		t.Errorf("P4: %d events wait, the next number is %d", waits, k.next)
	}
}

func TestPlannedAsAsked(t *testing.T) {
	k, want := kernel(t, twoKinds()), queue.New()
	wantPlan(t, k, 40, 1, 2, 1, api.OK)
	wantPlan(t, k, 30, 0, 1, 2, api.OK)
	want.Put(queue.Event{Number: 1, Time: 40, Kind: 1, Entity: 2})
	want.Put(queue.Event{Number: 2, Time: 30, Kind: 0, Entity: 1})
	if !reflect.DeepEqual(k.waits, want) {
		t.Errorf("P4: %v waits, want %v", k.waits, want)
	}
}

func TestAnErrorChangesNothing(t *testing.T) {
	k, same := kernel(t, twoKinds(), 4, 5), kernel(t, twoKinds(), 4, 5)
	for n := 1; n <= api.MaxQueue; n++ {
		wantPlan(t, k, n, 0, 0, n, api.OK)
		wantPlan(t, same, n, 0, 0, n, api.OK)
	}
	wantPlan(t, k, 7, 0, 0, 0, api.ErrFull)
	wantPlan(t, k, -1, 0, 0, 0, api.ErrArg)
	wantPlan(t, k, 7, 2, 0, 0, api.ErrArg)
	wantPlan(t, k, 7, 0, 3, 0, api.ErrArg)
	k.Register(3, 0)
	if !reflect.DeepEqual(k, same) {
		t.Errorf("P1: an error changed the kernel: %v, want %v", k, same)
	}
}

func TestNowAndRegisterTellWhatIs(t *testing.T) {
	k := kernel(t, twoKinds(), 4, 5, 6)
	k.clock, k.taken = 70, 2
	k.registers[2][3], k.registers[0][1] = -9, 8
	wantPlan(t, k, 70, 0, 0, 1, api.OK)
	if clock, waits, left := k.Now(); clock != 70 || waits != 1 || left != 1 {
		t.Errorf("P7: Now() = %d, %d, %d, want 70, 1, 1", clock, waits, left)
	}
	for _, c := range [][3]int{{2, 3, -9}, {0, 1, 8}, {0, 0, 0}, {1, 3, 0}} {
		if n, e := k.Register(c[0], c[1]); n != c[2] || e != api.OK {
			t.Errorf("P7: Register(%d, %d) = %d, %d, want %d", c[0], c[1], n, e, c[2])
		}
	}
}

func TestNothingHandedInIsKept(t *testing.T) {
	m, draws := twoKinds(), []int{4, 5, 6}
	k := kernel(t, m, draws...)
	clear(draws)
	clear(m.Kinds[1])
	m.Kinds[0] = nil
	if !reflect.DeepEqual(k.draws, []int{4, 5, 6}) || !reflect.DeepEqual(k.model, model.Copy(twoKinds())) {
		t.Errorf("P1: the kernel follows what was handed in: %v, %v", k.draws, k.model)
	}
}
