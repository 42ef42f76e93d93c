// Package model: which models, draws and values may be, and copies of models.
package model

import (
	"slices"

	"tempo/api"
)

// Check tells whether a model may be; else of which kind which instruction may not.
func Check(m api.Model) (api.Errno, int, int) {
	if !Within(m.Entities, 1, api.MaxEntities) || !Within(len(m.Kinds), 1, api.MaxKinds) {
		return api.ErrModel, 0, 0
	}
	for kind, code := range m.Kinds {
		if place, ok := checkCode(m, code); !ok {
			return api.ErrModel, kind, place
		}
	}
	return api.OK, 0, 0
}

// checkCode tells whether a kind's instructions may be; else which is the first that may not.
func checkCode(m api.Model, code []api.Instr) (int, bool) {
	if len(code) > api.MaxCode {
		return 0, false
	}
	for place, in := range code {
		if !mayBe(m, in) {
			return place, false
		}
	}
	return 0, true
}

// mayBe is the column 'may be, if' of the document's table.
func mayBe(m api.Model, in api.Instr) bool {
	switch in.Op {
	case api.Set:
		return IsRegister(in.A) && isValue(in.B) && in.C == 0
	case api.Add, api.Sub:
		return IsRegister(in.A) && IsRegister(in.B) && in.C == 0
	case api.Draw:
		return IsRegister(in.A) && Within(in.B, 1, api.MaxValue) && in.C == 0
	case api.Skip:
		return IsRegister(in.A) && Within(in.B, 1, api.MaxCode) && in.C == 0
	case api.Plan:
		return HasKind(m, in.A) && HasEntity(m, in.B) && IsRegister(in.C)
	case api.Drop, api.Tell:
		return IsRegister(in.A) && in.B == 0 && in.C == 0
	}
	return false
}

// AreDraws tells whether a kernel may be given these draws.
func AreDraws(draws []int) bool {
	return len(draws) <= api.MaxDraws && !slices.ContainsFunc(draws, notDraw)
}

func notDraw(n int) bool { return !Within(n, 0, api.MaxValue) }

// HasKind tells whether a model has a kind of that number.
func HasKind(m api.Model, kind int) bool { return Within(kind, 0, len(m.Kinds)-1) }

// HasEntity tells whether a model has an entity of that number.
func HasEntity(m api.Model, entity int) bool { return Within(entity, 0, m.Entities-1) }

// IsRegister tells whether every entity has a register of that number.
func IsRegister(r int) bool { return Within(r, 0, api.Registers-1) }

// Cut makes a value of a number that may be beyond.
func Cut(n int) int { return min(max(n, -api.MaxValue), api.MaxValue) }

// AreValues tells whether registers could hold all of these numbers.
func AreValues(l []int) bool {
	for _, n := range l {
		if !isValue(n) {
			return false
		}
	}
	return true
}

func isValue(n int) bool { return Within(n, -api.MaxValue, api.MaxValue) }

// Within tells whether a number is from low to high.
func Within(n, low, high int) bool { return low <= n && n <= high }

// Copy makes a model that shares no memory with the given one, whose owner may go on writing into it.
func Copy(m api.Model) api.Model {
	kinds := make([][]api.Instr, len(m.Kinds))
	for kind, code := range m.Kinds {
		kinds[kind] = append([]api.Instr(nil), code...)
	}
	return api.Model{Entities: m.Entities, Kinds: kinds}
}
