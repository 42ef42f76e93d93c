// Package queue: the events that wait for their time.
package queue

import "tempo/api"

// Event: what is planned: its number, for when, of which kind, of which entity.
type Event struct {
	Number, Time, Kind, Entity int
}

// Queue holds the events that wait.
type Queue struct {
	waits map[int]Event // by number, so that an event can be taken back by it
}

// New makes a queue in which nothing waits.
func New() *Queue { return &Queue{waits: map[int]Event{}} }

// Put lets an event wait. Its number must not be that of one that waits.
func (q *Queue) Put(e Event) { q.waits[e.Number] = e }

// Len tells how many events wait.
func (q *Queue) Len() int { return len(q.waits) }

// Full tells whether no more events may wait.
func (q *Queue) Full() bool { return q.Len() >= api.MaxQueue }
