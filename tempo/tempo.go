// Package tempo: events in the order of time: see DOC.md.
package tempo

import (
	"tempo/api"
	"tempo/model"
	"tempo/queue"
	"tempo/wire"
)

// Check tells whether a model may be; else of which kind which instruction may not (P2).
func Check(m api.Model) (api.Errno, int, int) { return model.Check(m) }

// Kernel lets events happen.
type Kernel struct {
	model api.Model
	draws []int
	waits *queue.Queue
	state
}

// state: what steps change beside the queue. It holds no pointer, so that an assignment is a copy to go back to.
type state struct {
	clock     int
	next      int // the number of the next event that is planned
	taken     int // how many of the draws are used up
	registers [api.MaxEntities][api.Registers]int
}

// New makes a kernel (P3).
func New(m api.Model, draws []int) (*Kernel, api.Errno) {
	if e, _, _ := model.Check(m); e != api.OK {
		return nil, e
	}
	if !model.AreDraws(draws) {
		return nil, api.ErrArg
	}
	// Copies, as the caller may go on writing into what was handed in.
	return &Kernel{
		model: model.Copy(m),
		draws: append([]int(nil), draws...),
		waits: queue.New(),
		state: state{next: 1},
	}, api.OK
}

// Plan plans an event (P4).
func (k *Kernel) Plan(time int, kind int, entity int) (int, api.Errno) {
	if time < k.clock || time > api.MaxTime || !model.HasKind(k.model, kind) || !model.HasEntity(k.model, entity) {
		return 0, api.ErrArg
	}
	if !k.hasRoom() {
		return 0, api.ErrFull
	}
	return k.put(time, kind, entity), api.OK
}

// hasRoom tells whether one more event can be planned: numbers are used up too, as registers must be able to hold them.
func (k *Kernel) hasRoom() bool { return !k.waits.Full() && k.next < api.MaxValue }

// put lets an event wait that may be planned, and tells its number.
func (k *Kernel) put(time int, kind int, entity int) int {
	number := k.next
	k.waits.Put(queue.Event{Number: number, Time: time, Kind: kind, Entity: entity})
	k.next++
	return number
}

// Run lets events happen (P5, P6).
func (k *Kernel) Run(steps int, horizon int) ([]api.Record, int, api.Errno) {
	if steps < 0 || steps > api.MaxSteps {
		return nil, 0, api.ErrArg
	}
	// With room for all of them no record waits for being ranged over.
	made := make(chan api.Record, steps)
	why := k.makeSteps(steps, horizon, made)
	return listed(made), why, api.OK
}

// listed gives out the records of a run as a list.
func listed(made <-chan api.Record) []api.Record {
	var l []api.Record
	for r := range made {
		l = append(l, r)
	}
	return l
}

// Now tells the clock, how many events wait, how many draws are left (P7).
func (k *Kernel) Now() (int, int, int) { return k.clock, k.waits.Len(), len(k.draws) - k.taken }

// Register tells a register (P7).
func (k *Kernel) Register(entity int, r int) (int, api.Errno) {
	if !model.HasEntity(k.model, entity) || !model.IsRegister(r) {
		return 0, api.ErrArg
	}
	return k.registers[entity][r], api.OK
}

// Save writes a kernel as bytes (P8).
func (k *Kernel) Save() []byte {
	w := wire.Begin(savedHead)
	k.write(w)
	return w.End()
}

// Load reads a kernel from bytes (P9).
func Load(m api.Model, draws []int, b []byte) (*Kernel, api.Errno) {
	k, e := New(m, draws)
	if e != api.OK {
		return nil, e
	}
	r, e := wire.Open(savedHead, b)
	if e != api.OK {
		return nil, e
	}
	if !k.read(r) {
		return nil, api.ErrForm
	}
	return k, api.OK
}

// Encode writes records as bytes (P10).
func Encode(l []api.Record) ([]byte, api.Errno) {
	if !areRecords(l) {
		return nil, api.ErrArg
	}
	w := wire.Begin(recordsHead)
	writeRecords(w, l)
	return w.End(), api.OK
}

// Decode reads records from bytes (P11).
func Decode(b []byte) ([]api.Record, api.Errno) {
	r, e := wire.Open(recordsHead, b)
	if e != api.OK {
		return nil, e
	}
	l := readRecords(r)
	if !r.Ended() {
		return nil, api.ErrForm
	}
	return l, api.OK
}

// Compare tells where two lists of records part; -1, if they do not (P12).
func Compare(a []api.Record, b []api.Record) int {
	both := min(len(a), len(b))
	for i := range both {
		if !sameRecord(a[i], b[i]) {
			return i
		}
	}
	if len(a) == len(b) {
		return -1
	}
	return both
}
