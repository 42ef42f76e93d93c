package queue

// moment: when an event is to happen.
type moment struct {
	time, number int
}

// ahead tells which of two moments is first: of one time, that of the least number.
func (m moment) ahead(o moment) bool {
	return m.time < o.time || m.time == o.time && m.number < o.number
}

// heap: moments of which none is ahead of the one above it: above place i is (i-1)/2, so the first moment is at 0.
type heap []moment

// with puts a moment into a heap.
func (h heap) with(m moment) heap {
	h = append(h, m)
	h.rise(len(h) - 1)
	return h
}

// without takes the moment at a place out of a heap.
func (h heap) without(i int) heap {
	last := len(h) - 1
	h[i] = h[last]
	h = h[:last]
	if i < last {
		// The one from the end may belong above as well as below, as it comes from another branch.
		h.sink(i)
		h.rise(i)
	}
	return h
}

// rise lets the moment at a place go up for as long as it is ahead of the one above it.
func (h heap) rise(i int) {
	for i > 0 {
		above := (i - 1) / 2
		if !h[i].ahead(h[above]) {
			return
		}
		h[i], h[above] = h[above], h[i]
		i = above
	}
}

// sink lets the moment at a place go down for as long as one below is ahead of it.
func (h heap) sink(i int) {
	for {
		below := 2*i + 1
		if below >= len(h) {
			return
		}
		if below+1 < len(h) && h[below+1].ahead(h[below]) {
			below++
		}
		if !h[below].ahead(h[i]) {
			return
		}
		h[i], h[below] = h[below], h[i]
		i = below
	}
}
