package tempo

import (
	"tempo/api"
	"tempo/queue"
	"tempo/wire"
)

// savedHead: how a kernel that is saved begins.
const savedHead = "TMP\x01"

// write writes all of a kernel that its model and draws do not tell.
func (k *Kernel) write(w *wire.Writer) {
	w.Number(k.model.Entities)
	w.Number(len(k.model.Kinds))
	w.Number(k.clock)
	w.Number(k.next)
	w.Number(k.taken)
	for entity := range k.model.Entities {
		for _, value := range k.registers[entity] {
			w.Signed(value)
		}
	}
	k.writeQueue(w)
}

func (k *Kernel) writeQueue(w *wire.Writer) {
	w.Number(k.waits.Len())
	ahead := k.clock
	for _, event := range k.waits.InOrder() {
		w.Number(event.Time - ahead)
		w.Number(event.Number)
		w.Number(event.Kind)
		w.Number(event.Entity)
		ahead = event.Time
	}
}

// read makes a new kernel one that was saved, and tells whether that could be; else it is of no use.
func (k *Kernel) read(r *wire.Reader) bool {
	entities, kinds := k.model.Entities, len(k.model.Kinds)
	r.Number(entities, entities)
	r.Number(kinds, kinds)
	k.clock = r.Number(0, api.MaxTime)
	k.next = r.Number(1, api.MaxValue)
	k.taken = r.Number(0, len(k.draws))
	for entity := range entities {
		own := &k.registers[entity]
		for i := range own {
			own[i] = r.Signed(api.MaxValue)
		}
	}
	return k.readQueue(r) && r.Ended()
}

// readQueue reads the events that wait, and tells whether no two of them have the same number.
func (k *Kernel) readQueue(r *wire.Reader) bool {
	ahead := queue.Event{Time: k.clock}
	for range r.Number(0, api.MaxQueue) {
		event := k.readEvent(r, ahead)
		if k.waits.Has(event.Number) {
			return false
		}
		k.waits.Put(event)
		ahead = event
	}
	return true
}

// readEvent reads the event that waits behind another.
func (k *Kernel) readEvent(r *wire.Reader, ahead queue.Event) queue.Event {
	later, least := r.Number(0, api.MaxTime-ahead.Time), 1
	if later == 0 {
		// Of one time, the one with the greater number comes behind.
		least = ahead.Number + 1
	}
	event := queue.Event{Time: ahead.Time + later}
	event.Number = r.Number(least, k.next-1)
	event.Kind = r.Number(0, len(k.model.Kinds)-1)
	event.Entity = r.Number(0, k.model.Entities-1)
	return event
}
