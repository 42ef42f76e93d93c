package tempo

import (
	"slices"

	"tempo/api"
	"tempo/model"
	"tempo/wire"
)

// recordsHead: how records that are written begin.
const recordsHead = "TMR\x01"

// areRecords tells whether records may be written.
func areRecords(l []api.Record) bool {
	if len(l) > api.MaxRecords {
		return false
	}
	ahead := 0
	for _, r := range l {
		if !isRecord(r, ahead) {
			return false
		}
		ahead = r.Time
	}
	return true
}

// isRecord tells whether a record may be written behind one of that time.
func isRecord(r api.Record, ahead int) bool {
	return model.Within(r.Number, 0, api.MaxValue) &&
		model.Within(r.Time, ahead, api.MaxTime) &&
		model.Within(r.Kind, 0, api.MaxKinds-1) &&
		model.Within(r.Entity, 0, api.MaxEntities-1) &&
		len(r.Told) <= api.MaxTold && model.AreValues(r.Told)
}

// writeRecords writes records that may be written.
func writeRecords(w *wire.Writer, l []api.Record) {
	w.Number(len(l))
	ahead := 0
	for _, r := range l {
		w.Number(r.Time - ahead)
		w.Number(r.Number)
		w.Number(r.Kind)
		w.Number(r.Entity)
		w.Number(len(r.Told))
		for _, value := range r.Told {
			w.Signed(value)
		}
		ahead = r.Time
	}
}

// readRecords reads records; they are of no use if the reader has a fault.
func readRecords(r *wire.Reader) []api.Record {
	var l []api.Record
	ahead := 0
	for range r.Number(0, api.MaxRecords) {
		one := readRecord(r, ahead)
		l = append(l, one)
		ahead = one.Time
	}
	return l
}

// readRecord reads the record that stands behind one of that time.
func readRecord(r *wire.Reader, ahead int) api.Record {
	one := api.Record{Time: ahead + r.Number(0, api.MaxTime-ahead)}
	one.Number = r.Number(0, api.MaxValue)
	one.Kind = r.Number(0, api.MaxKinds-1)
	one.Entity = r.Number(0, api.MaxEntities-1)
	for range r.Number(0, api.MaxTold) {
		one.Told = append(one.Told, r.Signed(api.MaxValue))
	}
	return one
}

// sameRecord tells whether two records are the same.
func sameRecord(a, b api.Record) bool {
	return a.Number == b.Number && a.Time == b.Time && a.Kind == b.Kind && a.Entity == b.Entity && slices.Equal(a.Told, b.Told)
}
