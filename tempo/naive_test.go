package tempo_test

import (
	"cmp"
	"math/rand/v2"
	"reflect"
	"slices"
	"testing"

	"tempo/api"
	"tempo/tempo"
)

// naive does what the document says of steps in the plainest way: a list that is sorted for each step, made on a copy that is thrown away if the step is stopped.
type naive struct {
	m           api.Model
	draws       []int // those left
	clock, next int
	registers   [8][4]int
	waits       []api.Record
}

func (n naive) copied() naive {
	n.draws, n.waits = slices.Clone(n.draws), slices.Clone(n.waits)
	return n
}

func (n *naive) plan(time, kind, entity int) int {
	n.waits = append(n.waits, api.Record{Number: n.next, Time: time, Kind: kind, Entity: entity})
	n.next++
	return n.next - 1
}

func (n *naive) run(steps, horizon int) ([]api.Record, int) {
	var l []api.Record
	for range steps {
		slices.SortFunc(n.waits, func(a, b api.Record) int {
			return cmp.Or(cmp.Compare(a.Time, b.Time), cmp.Compare(a.Number, b.Number))
		})
		if len(n.waits) == 0 {
			return l, api.Empty
		}
		if n.waits[0].Time > horizon {
			return l, api.Horizon
		}
		try := n.copied()
		r, why := try.step()
		if why != api.Ran {
			return l, why
		}
		*n = try
		l = append(l, r)
	}
	return l, api.Ran
}

func (n *naive) step() (api.Record, int) {
	r := n.waits[0]
	n.waits = n.waits[1:]
	n.clock = r.Time
	own, skip := &n.registers[r.Entity], 0
	for _, in := range n.m.Kinds[r.Kind] {
		if skip > 0 {
			skip--
			continue
		}
		switch in.Op {
		case api.Set:
			own[in.A] = in.B
		case api.Add, api.Sub:
			sum := own[in.A] + own[in.B]
			if in.Op == api.Sub {
				sum = own[in.A] - own[in.B]
			}
			own[in.A] = min(max(sum, -1000000000), 1000000000)
		case api.Draw:
			if len(n.draws) == 0 {
				return r, api.Dry
			}
			own[in.A], n.draws = n.draws[0]%in.B, n.draws[1:]
		case api.Skip:
			if own[in.A] < 1 {
				skip = in.B
			}
		case api.Plan:
			if len(n.waits) == 16 || n.next == 1000000000 {
				return r, api.Full
			}
			time := n.clock
			if own[in.C] > 0 {
				time += own[in.C]
			}
			if time > 1000000000000 {
				return r, api.Late
			}
			own[3] = n.plan(time, in.A, in.B)
		case api.Drop:
			n.waits = slices.DeleteFunc(n.waits, func(e api.Record) bool { return e.Number == own[in.A] })
		case api.Tell:
			r.Told = append(r.Told, own[in.A])
		}
	}
	return r, api.Ran
}

func chosenValue(source *rand.Rand) int {
	switch source.IntN(8) {
	case 0:
		return 1000000000 - 2000000000*source.IntN(2)
	case 1:
		return source.IntN(2000000001) - 1000000000
	case 2:
		return source.IntN(41) - 20
	}
	return source.IntN(7) - 1
}

func chosenInstr(source *rand.Rand, entities, kinds int) api.Instr {
	op := []int{api.Set, api.Set, api.Add, api.Sub, api.Draw, api.Skip, api.Plan, api.Plan, api.Plan, api.Drop, api.Tell, api.Tell}[source.IntN(12)]
	in := api.Instr{Op: op, A: source.IntN(4)}
	switch op {
	case api.Set:
		in.B = chosenValue(source)
	case api.Add, api.Sub:
		in.B = source.IntN(4)
	case api.Draw:
		in.B = []int{1, 1 + source.IntN(9), 1000000000}[source.IntN(3)]
	case api.Skip:
		in.B = 1 + source.IntN(3)*source.IntN(6)
	case api.Plan:
		in.A, in.B, in.C = source.IntN(kinds), source.IntN(entities), source.IntN(4)
	}
	return in
}

func chosenModel(source *rand.Rand) api.Model {
	m := api.Model{Entities: 1 + source.IntN(8), Kinds: make([][]api.Instr, 1+source.IntN(8))}
	for kind := range m.Kinds {
		for range source.IntN(3 + source.IntN(15)) {
			m.Kinds[kind] = append(m.Kinds[kind], chosenInstr(source, m.Entities, len(m.Kinds)))
		}
	}
	return m
}

func chosenDraws(source *rand.Rand) []int {
	draws := make([]int, source.IntN(60))
	for i := range draws {
		draws[i] = source.IntN(1 + []int{3, 50, 1000000000}[source.IntN(3)])
	}
	return draws
}

// wantAlike holds all that a kernel tells against the naive one.
func wantAlike(t *testing.T, k *tempo.Kernel, n *naive) {
	t.Helper()
	wantNow(t, k, n.clock, len(n.waits), len(n.draws))
	for entity := range n.m.Entities {
		for r := range 4 {
			if value, e := k.Register(entity, r); value != n.registers[entity][r] || e != api.OK {
				t.Errorf("P5: Register(%d, %d) = %d, %d, want %d", entity, r, value, e, n.registers[entity][r])
			}
		}
	}
}

func wantRisen(t *testing.T, all []api.Record) {
	t.Helper()
	for i := 1; i < len(all); i++ {
		a, b := all[i-1], all[i]
		if b.Time < a.Time || b.Time == a.Time && b.Number <= a.Number {
			t.Errorf("P13: %v comes behind %v", b, a)
		}
	}
}

// TestRunsAsTheNaiveOne runs models that are made up in pieces, with events planned in between (P5, P6, P13).
func TestRunsAsTheNaiveOne(t *testing.T) {
	source := rand.New(rand.NewPCG(7, 1))
	var reasons, steps [6]int
	for model := range 3000 {
		m, draws := chosenModel(source), chosenDraws(source)
		k, n := made(t, m, draws), &naive{m: m, draws: draws, next: 1}
		var all []api.Record
		for range 12 {
			for range source.IntN(6) {
				planAlike(t, source, k, n)
			}
			size, horizon := source.IntN(1+[]int{1, 5, 100}[source.IntN(3)]), n.clock+source.IntN(40)
			if source.IntN(2) == 0 {
				horizon = 1000000000000
			}
			l, why, e := k.Run(size, horizon)
			want, because := n.run(size, horizon)
			if len(l) != len(want) || len(l) > 0 && !reflect.DeepEqual(l, want) || why != because || e != api.OK {
				t.Fatalf("P6: model %d %v: Run(%d, %d) = %v, %d, %d, want %v, %d", model, m, size, horizon, l, why, e, want, because)
			}
			wantAlike(t, k, n)
			all = append(all, l...)
			reasons[why]++
			steps[why] += len(l)
		}
		wantRisen(t, all)
		if t.Failed() {
			t.Fatalf("model %d: %v", model, m)
		}
	}
	for why, count := range reasons {
		if count < 100 || steps[why] < 100 {
			t.Errorf("only %d runs with %d steps end by %d: too few to tell", count, steps[why], why)
		}
	}
}

func planAlike(t *testing.T, source *rand.Rand, k *tempo.Kernel, n *naive) {
	t.Helper()
	time := n.clock + source.IntN(1+[]int{0, 6, 30}[source.IntN(3)])
	if source.IntN(60) == 0 {
		time = 1000000000000 - source.IntN(8)
	}
	time = min(max(time, n.clock), 1000000000000)
	kind, entity := source.IntN(len(n.m.Kinds)), source.IntN(n.m.Entities)
	want, wantError := 0, api.ErrFull
	if len(n.waits) < 16 {
		want, wantError = n.plan(time, kind, entity), api.OK
	}
	if got, e := k.Plan(time, kind, entity); got != want || e != wantError {
		t.Errorf("P4: Plan(%d, %d, %d) = %d, %d, want %d, %d", time, kind, entity, got, e, want, wantError)
	}
}
