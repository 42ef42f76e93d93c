// Package api: the constants and plain types of tempo.
package api

type Errno int

const (
	OK       Errno = 0
	ErrArg   Errno = 1 // something that is handed in and may not be
	ErrModel Errno = 2 // a model that may not be
	ErrFull  Errno = 3 // there is no room in the queue
	ErrForm  Errno = 4 // bytes that are nothing of this kind
	ErrSum   Errno = 5 // bytes whose sum is not right
)

const (
	MaxEntities = 8
	Registers   = 4 // of an entity
	MaxKinds    = 8
	MaxCode     = 16 // instructions of a kind
	MaxValue    = 1000000000
	MaxTime     = 1000000000000
	MaxQueue    = 16
	MaxSteps    = 1000
	MaxDraws    = 1000
	MaxRecords  = 1000
	MaxTold     = 16
)

// The instructions.
const (
	Set  = iota + 1 // register A becomes B
	Add             // register A becomes itself and register B
	Sub             // register A becomes itself less register B
	Draw            // register A becomes the next draw modulo B
	Skip            // if register A is not above 0, the next B instructions are passed over
	Plan            // an event of kind A, of entity B, in as many ticks as register C says
	Drop            // the event of the number that register A says is in the queue no more
	Tell            // register A is told
)

// Instr: an instruction.
type Instr struct {
	Op, A, B, C int
}

// Model: how many entities there are; of each kind of event what is done.
type Model struct {
	Entities int
	Kinds    [][]Instr
}

// Record: an event that has happened: its number, when, of which kind, of which entity; what was told.
type Record struct {
	Number, Time, Kind, Entity int
	Told                       []int
}

// Why a run has stopped.
const (
	Ran     = iota // all steps were made
	Empty          // there is no event
	Horizon        // the next event is later than that
	Full           // the next step would plan more events than may be
	Late           // the next step would plan an event that is too late
	Dry            // the next step would want a draw, and there is none
)
