// Package queue: the events that wait for their time.
package queue

import (
	"maps"
	"slices"

	"tempo/api"
)

// Event: what is planned: its number, for when, of which kind, of which entity.
type Event struct {
	Number, Time, Kind, Entity int
}

// Queue holds the events that wait.
type Queue struct {
	waits map[int]Event // by number, so that an event can be taken back by it
	order heap          // of the same events, so that the next one is found
}

// New makes a queue in which nothing waits.
func New() *Queue { return &Queue{waits: map[int]Event{}} }

// Put lets an event wait. Its number must not be that of one that waits.
func (q *Queue) Put(e Event) {
	q.waits[e.Number] = e
	q.order = q.order.with(moment{e.Time, e.Number})
}

// First tells which event happens next, if one waits.
func (q *Queue) First() (Event, bool) {
	if len(q.order) == 0 {
		return Event{}, false
	}
	return q.waits[q.order[0].number], true
}

// Has tells whether an event of that number waits.
func (q *Queue) Has(number int) bool {
	_, ok := q.waits[number]
	return ok
}

// InOrder lists the events that wait as they would happen.
func (q *Queue) InOrder() []Event {
	l := make([]Event, 0, len(q.order))
	for left := slices.Clone(q.order); len(left) > 0; left = left.without(0) {
		l = append(l, q.waits[left[0].number])
	}
	return l
}

// Drop lets the event of that number wait no more, if it does.
func (q *Queue) Drop(number int) {
	e, ok := q.waits[number]
	if !ok {
		return
	}
	delete(q.waits, number)
	// Out of the heap at once: what was left there would pile up over a long run.
	q.order = q.order.without(slices.Index(q.order, moment{e.Time, e.Number}))
}

// Become lets the same events wait as in another queue; the two share nothing.
func (q *Queue) Become(o *Queue) {
	clear(q.waits)
	maps.Copy(q.waits, o.waits)
	q.order = append(q.order[:0], o.order...)
}

// Len tells how many events wait.
func (q *Queue) Len() int { return len(q.waits) }

// Full tells whether no more events may wait.
func (q *Queue) Full() bool { return q.Len() >= api.MaxQueue }
