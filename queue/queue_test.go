package queue

import (
	"math/rand/v2"
	"reflect"
	"slices"
	"testing"
)

func TestFull(t *testing.T) {
	q := New()
	for n := 1; n <= 16; n++ {
		if q.Full() || q.Len() != n-1 {
			t.Fatalf("P4: with %d events: Full() = %v, Len() = %d", n-1, q.Full(), q.Len())
		}
		q.Put(Event{Number: n, Time: 7})
	}
	if !q.Full() || q.Len() != 16 {
		t.Errorf("P4: with 16 events: Full() = %v, Len() = %d", q.Full(), q.Len())
	}
	q.Drop(9)
	if q.Full() || q.Len() != 15 {
		t.Errorf("P5: with one taken back: Full() = %v, Len() = %d", q.Full(), q.Len())
	}
}

func filled(l ...Event) *Queue {
	q := New()
	for _, e := range l {
		q.Put(e)
	}
	return q
}

// emptied takes the first event until there is none.
func emptied(q *Queue) []Event {
	var l []Event
	for e, ok := q.First(); ok; e, ok = q.First() {
		l = append(l, e)
		q.Drop(e.Number)
	}
	return l
}

func TestFirstOfNothing(t *testing.T) {
	q := New()
	if e, ok := q.First(); ok || e != (Event{}) {
		t.Errorf("P6: First() of an empty queue = %v, %v", e, ok)
	}
	q.Put(Event{Number: 3})
	q.Drop(3)
	if e, ok := q.First(); ok || e != (Event{}) {
		t.Errorf("P6: First() behind the last event = %v, %v", e, ok)
	}
}

func TestOrder(t *testing.T) {
	a, b, c, d := Event{5, 9, 1, 2}, Event{6, 9, 0, 0}, Event{7, 8, 3, 1}, Event{1, 10, 2, 7}
	for _, l := range [][]Event{{a, b, c, d}, {d, c, b, a}, {b, d, a, c}, {c, b, a, d}} {
		if got := emptied(filled(l...)); !slices.Equal(got, []Event{c, a, b, d}) {
			t.Errorf("P5: %v come as %v", l, got)
		}
	}
}

func TestDropOfWhatDoesNotWait(t *testing.T) {
	q := filled(Event{Number: 2, Time: 4}, Event{Number: 3, Time: 1})
	for _, n := range []int{0, 1, 4, -2} {
		q.Drop(n)
	}
	if q.Len() != 2 {
		t.Errorf("P5: %d events wait, want 2", q.Len())
	}
}

// TestDropAnywhere holds a queue against a list that is sorted, over events taken back at every place.
func TestDropAnywhere(t *testing.T) {
	source := rand.New(rand.NewPCG(4, 9))
	for range 3000 {
		q, l := New(), []Event(nil)
		for n := range source.IntN(17) {
			e := Event{Number: n + 1, Time: source.IntN(8), Kind: source.IntN(8), Entity: source.IntN(8)}
			q.Put(e)
			l = append(l, e)
		}
		for len(l) > 0 && source.IntN(3) > 0 {
			i := source.IntN(len(l))
			q.Drop(l[i].Number)
			l = slices.Delete(l, i, i+1)
		}
		slices.SortStableFunc(l, func(a, b Event) int { return a.Time - b.Time })
		if got := emptied(q); !slices.Equal(got, l) {
			t.Fatalf("P5: the events come as %v, want %v", got, l)
		}
	}
}

func TestNothingIsLeftOfWhatWasDropped(t *testing.T) {
	q := New()
	for n := range 1000 {
		q.Put(Event{Number: n, Time: 1000 - n})
		q.Drop(n)
	}
	if len(q.waits) != 0 || len(q.order) != 0 {
		t.Errorf("P5: %d events and %d moments are left", len(q.waits), len(q.order))
	}
}

func TestBecome(t *testing.T) {
	l := []Event{{1, 5, 2, 3}, {2, 4, 1, 1}, {4, 4, 0, 0}}
	q, spare := filled(l...), filled(Event{1, 9, 0, 0}, Event{3, 0, 0, 0})
	spare.Become(q)
	if !reflect.DeepEqual(spare, filled(l...)) {
		t.Fatalf("P5: the copy is %v, want %v", spare, q)
	}
	q.Drop(2)
	q.Put(Event{5, 1, 1, 1})
	if !reflect.DeepEqual(spare, filled(l...)) {
		t.Fatalf("P5: the copy follows what was copied: %v", spare)
	}
	q.Become(spare)
	spare.Become(New())
	if !reflect.DeepEqual(q, filled(l...)) || spare.Len() != 0 || emptied(spare) != nil {
		t.Errorf("P5: the queue is %v, want %v; the copy is %v, want nothing", q, filled(l...), spare)
	}
}

func TestHas(t *testing.T) {
	q := filled(Event{Number: 2, Time: 4}, Event{Number: 5, Time: 1})
	q.Drop(5)
	for n, want := range []bool{false, false, true, false, false, false} {
		if q.Has(n) != want {
			t.Errorf("P9: Has(%d) = %v", n, !want)
		}
	}
}

// TestInOrder lists queues out of which events were taken: as they would happen, and nothing changes.
func TestInOrder(t *testing.T) {
	if l := New().InOrder(); len(l) != 0 {
		t.Errorf("P8: InOrder() of an empty queue = %v", l)
	}
	source := rand.New(rand.NewPCG(3, 8))
	for range 2000 {
		q := New()
		for n := range source.IntN(17) {
			q.Put(Event{Number: n + 1, Time: source.IntN(8), Kind: source.IntN(8), Entity: source.IntN(8)})
		}
		q.Drop(1 + source.IntN(16))
		same := New()
		same.Become(q)
		l := q.InOrder()
		if !reflect.DeepEqual(q.waits, same.waits) || !slices.Equal(q.order, same.order) {
			t.Fatalf("P8: InOrder() changed %v to %v", same, q)
		}
		if want := emptied(same); !slices.Equal(l, want) {
			t.Fatalf("P8: InOrder() = %v, want %v", l, want)
		}
	}
}
