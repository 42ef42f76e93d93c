package api

import "testing"

// The numbers are written out here, as the constants themselves are counted by iota: a line that is moved is found.
func TestNumbers(t *testing.T) {
	for _, c := range []struct {
		name      string
		got, want int
	}{
		{"OK", int(OK), 0}, {"ErrArg", int(ErrArg), 1}, {"ErrModel", int(ErrModel), 2}, {"ErrFull", int(ErrFull), 3}, {"ErrForm", int(ErrForm), 4}, {"ErrSum", int(ErrSum), 5},
		{"MaxEntities", MaxEntities, 8}, {"Registers", Registers, 4}, {"MaxKinds", MaxKinds, 8}, {"MaxCode", MaxCode, 16}, {"MaxValue", MaxValue, 1000000000}, {"MaxTime", MaxTime, 1000000000000},
		{"MaxQueue", MaxQueue, 16}, {"MaxSteps", MaxSteps, 1000}, {"MaxDraws", MaxDraws, 1000}, {"MaxRecords", MaxRecords, 1000}, {"MaxTold", MaxTold, 16},
		{"Set", Set, 1}, {"Add", Add, 2}, {"Sub", Sub, 3}, {"Draw", Draw, 4}, {"Skip", Skip, 5}, {"Plan", Plan, 6}, {"Drop", Drop, 7}, {"Tell", Tell, 8},
		{"Ran", Ran, 0}, {"Empty", Empty, 1}, {"Horizon", Horizon, 2}, {"Full", Full, 3}, {"Late", Late, 4}, {"Dry", Dry, 5},
	} {
		if c.got != c.want {
			t.Errorf("%s = %d, want %d", c.name, c.got, c.want)
		}
	}
}
