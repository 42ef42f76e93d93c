package queue

import "testing"

func TestFull(t *testing.T) {
	q := New()
	for n := 1; n <= 16; n++ {
		if q.Full() || q.Len() != n-1 {
			t.Fatalf("P4: with %d events: Full() = %v, Len() = %d", n-1, q.Full(), q.Len())
		}
		q.Put(Event{Number: n, Time: 7})
	}
	if !q.Full() || q.Len() != 16 {
		t.Errorf("P4: with 16 events: Full() = %v, Len() = %d", q.Full(), q.Len())
	}
}
