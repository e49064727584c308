package folds

import (
	"math"
	"math/rand"
	"slices"
	"testing"

	"archipelago/api"
	"archipelago/deeds"
)

// The document's numbers, which the program is to have.
const (
	accepted  = 1
	conflict  = 2
	rejected  = 3
	malformed = 7

	opens  = 1
	adds   = 2
	takes  = 3
	closes = 4

	count = 1
	purs  = 2
	tall  = 3
)

// ends are ints at which all things end.
var ends = []int{math.MinInt, math.MinInt + 1, math.MaxInt - 1, math.MaxInt}

// entry is one of an order that expects no version.
func entry(id, kind, arg int) api.Entry {
	return api.Entry{Epoch: 1, Order: api.Order{ID: id, Stream: 1, Expect: -1, Kind: kind, Arg: arg}}
}

// expecting is the entry, where its order expects that version.
func expecting(e api.Entry, version int) api.Entry {
	e.Order.Expect = version
	return e
}

// bare is an outcome without events.
func bare(code, version int) api.Outcome {
	return api.Outcome{Code: code, Version: version}
}

// took is the outcome of an order that came to that event.
func took(version, kind, arg int) api.Outcome {
	return api.Outcome{Code: accepted, Version: version, Events: []api.Event{{Kind: kind, Arg: arg}}}
}

// cameBefore tells the place of the first entry ahead of the i-th one with the same ID; i, if there is none.
func cameBefore(log []api.Entry, i int) int {
	for k := range i {
		if log[k].Order.ID == log[i].Order.ID {
			return k
		}
	}
	return i
}

// ofByHand is the state and the outcomes of a log, by the chapter's words: for each entry all that is ahead is gone
// through anew.
func ofByHand(log []api.Entry) (api.State, []api.Outcome) {
	s := api.State{}
	var l []api.Outcome
	for i := range log {
		if k := cameBefore(log, i); k < i {
			l = append(l, bare(l[k].Code, l[k].Version))
			continue
		}
		out := deeds.Decide(s, log[i].Order)
		for _, e := range out.Events {
			s = deeds.Apply(s, e)
		}
		l = append(l, out)
	}
	return s, l
}

// findByHand gathers all places of the ID, and tells the least one.
func findByHand(log []api.Entry, id int) (int, bool) {
	var all []int
	for i := len(log) - 1; i >= 0; i-- {
		if log[i].Order.ID == id {
			all = append(all, i)
		}
	}
	if len(all) == 0 {
		return 0, false
	}
	return slices.Min(all), true
}

// sameOutcomes tells whether both lists are one; events that are nil, and none, are one and the same, and so are lists.
func sameOutcomes(a, b []api.Outcome) bool {
	return slices.EqualFunc(a, b, func(x, y api.Outcome) bool {
		return x.Code == y.Code && x.Version == y.Version && slices.Equal(x.Events, y.Events)
	})
}

// wantOf wants just that state and these outcomes of the log, and the log to stay as it is.
func wantOf(t *testing.T, log []api.Entry, s api.State, l []api.Outcome) {
	t.Helper()
	was := slices.Clone(log)
	gotState, got := Of(log)
	if gotState != s || !sameOutcomes(got, l) {
		t.Fatalf("Of(%+v) = %+v, %+v, want %+v, %+v", log, gotState, got, s, l)
	}
	if !slices.Equal(was, log) {
		t.Fatalf("the log %+v became %+v", was, log)
	}
}

// wantOfByHand wants of the log what the second hand tells; it tells the outcomes.
func wantOfByHand(t *testing.T, log []api.Entry) []api.Outcome {
	t.Helper()
	s, l := ofByHand(log)
	wantOf(t, log, s, l)
	return l
}

// wantFind wants just that place of the ID, and the log to stay as it is.
func wantFind(t *testing.T, log []api.Entry, id, place int, ok bool) {
	t.Helper()
	was := slices.Clone(log)
	if got, is := Find(log, id); got != place || is != ok {
		t.Fatalf("Find(%+v, %d) = %d, %t, want %d, %t", log, id, got, is, place, ok)
	}
	if !slices.Equal(was, log) {
		t.Fatalf("the log %+v became %+v", was, log)
	}
}

// events are all events of the outcomes, in order.
func events(l []api.Outcome) []api.Event {
	var all []api.Event
	for _, o := range l {
		all = append(all, o.Events...)
	}
	return all
}

// spoil writes into the outcomes and their events, and into what room there is behind them.
func spoil(l []api.Outcome) {
	for i := range l {
		spoilEvents(l[i].Events)
	}
	l = l[:cap(l)]
	for i := range l {
		l[i] = api.Outcome{Code: -1, Version: -1, Events: []api.Event{{Kind: -1, Arg: -1}}}
	}
}

// spoilEvents writes into the events, and into what room there is behind them.
func spoilEvents(l []api.Event) {
	l = l[:cap(l)]
	for i := range l {
		l[i] = api.Event{Kind: -1, Arg: -1}
	}
}

// otherwise are entries with the order's ID, each with another one of its other fields, or with all of them, or with none.
func otherwise(e api.Entry) []api.Entry {
	l := []api.Entry{e, e, e, e, e, e, e, {Epoch: 7, Order: api.Order{ID: e.Order.ID}}}
	l[1].Order.Stream = (e.Order.Stream + 1) % 4
	l[2].Order.Expect = e.Order.Expect + 1
	l[3].Order.Kind = e.Order.Kind%4 + 1
	l[4].Order.Arg++
	l[5].Epoch++
	l[6].Epoch, l[6].Order = 9, api.Order{ID: e.Order.ID, Stream: 3 - e.Order.Stream, Expect: 2, Kind: 5 - e.Order.Kind, Arg: e.Order.Arg + 2}
	return l
}

// randomEntry is one of any epoch, whose ID is one of the first ones, and whose order mostly is such that it may be accepted
// by a state of about that version.
func randomEntry(r *rand.Rand, ids, version int) api.Entry {
	e := entry(1+r.Intn(ids), 1+r.Intn(3), 1+r.Intn(4))
	e.Epoch = r.Intn(5)
	switch r.Intn(12) {
	case 0, 1, 2:
		e.Order.Expect = max(-1, version-1+r.Intn(3))
	case 3:
		e.Order.Kind = closes
	case 4:
		e.Order.Arg = r.Intn(9) - 4
	case 5:
		n := int(r.Uint64()) >> r.Intn(64)
		*[]*int{&e.Epoch, &e.Order.ID, &e.Order.Stream, &e.Order.Expect, &e.Order.Kind, &e.Order.Arg}[r.Intn(6)] = n
	}
	return e
}

// randomLog is a log of that many entries, of which some have one ID.
func randomLog(r *rand.Rand, length int) []api.Entry {
	var log []api.Entry
	ids := 1 + r.Intn(2*length+1)
	for range length {
		log = append(log, randomEntry(r, ids, r.Intn(len(log)+1)))
	}
	if length > 0 && r.Intn(4) > 0 { // else the log is mostly of a stream that was never opened
		log[0] = entry(1+r.Intn(ids), opens, 1+r.Intn(3))
	}
	return log
}

// P13.1: api has the document's numbers.
func TestNumbers(t *testing.T) {
	got := []int{api.Accepted, api.Conflict, api.Rejected, api.Malformed, api.OrOpen, api.OrAdd, api.OrTake, api.OrClose, api.TagCount, api.TagPurse, api.TagTally}
	if want := []int{accepted, conflict, rejected, malformed, opens, adds, takes, closes, count, purs, tall}; !slices.Equal(got, want) {
		t.Errorf("the numbers are %v, want %v", got, want)
	}
}
