package tempo

import (
	"tempo/api"
	"tempo/model"
	"tempo/queue"
)

// makeSteps makes steps, sends their records and closes behind the last; it tells why no more were made.
func (k *Kernel) makeSteps(steps int, horizon int, made chan<- api.Record) int {
	defer close(made)
	spare := queue.New()
	for range steps {
		r, why := k.step(horizon, spare)
		if why != api.Ran {
			return why
		}
		made <- r
	}
	return api.Ran
}

// step lets the next event happen, or tells why it does not: then nothing has changed. The spare queue is written over.
func (k *Kernel) step(horizon int, spare *queue.Queue) (api.Record, int) {
	event, ok := k.waits.First()
	if !ok {
		return api.Record{}, api.Empty
	}
	if event.Time > horizon {
		return api.Record{}, api.Horizon
	}
	// Only when an instruction's turn comes it is known whether it can be done: what was done until then is undone by these copies.
	before := k.state
	spare.Become(k.waits)
	told, why := k.happen(event)
	if why != api.Ran {
		k.state = before
		k.waits.Become(spare)
		return api.Record{}, why
	}
	return api.Record{Number: event.Number, Time: event.Time, Kind: event.Kind, Entity: event.Entity, Told: told}, api.Ran
}

// happen does what an event does, as far as it can be done: what is told, and why it goes no further.
func (k *Kernel) happen(event queue.Event) ([]int, int) {
	k.waits.Drop(event.Number)
	k.clock = event.Time
	own := &k.registers[event.Entity]
	code := k.model.Kinds[event.Kind]
	var told []int
	for at := 0; at < len(code); at++ {
		why := api.Ran
		switch in := code[at]; in.Op {
		case api.Set:
			own[in.A] = in.B
		case api.Add:
			own[in.A] = model.Cut(own[in.A] + own[in.B])
		case api.Sub:
			own[in.A] = model.Cut(own[in.A] - own[in.B])
		case api.Draw:
			own[in.A], why = k.draw(in.B)
		case api.Skip:
			if own[in.A] <= 0 {
				at += in.B
			}
		case api.Plan:
			own[api.Registers-1], why = k.planIn(own[in.C], in.A, in.B)
		case api.Drop:
			k.waits.Drop(own[in.A])
		case api.Tell:
			told = append(told, own[in.A])
		}
		if why != api.Ran {
			return nil, why
		}
	}
	return told, api.Ran
}

// draw takes the next draw, modulo a number, if one is left.
func (k *Kernel) draw(modulo int) (int, int) {
	if k.taken == len(k.draws) {
		return 0, api.Dry
	}
	n := k.draws[k.taken] % modulo
	k.taken++
	return n, api.Ran
}

// planIn plans an event in so many ticks, if it may be, and tells its number.
func (k *Kernel) planIn(ticks int, kind int, entity int) (int, int) {
	if !k.hasRoom() {
		return 0, api.Full
	}
	time := k.clock + max(ticks, 0)
	if time > api.MaxTime {
		return 0, api.Late
	}
	return k.put(time, kind, entity), api.Ran
}
