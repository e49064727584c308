package deeds

import (
	"math"
	"math/big"
	"math/rand"
	"slices"
	"testing"

	"archipelago/api"
)

// The document's numbers, which the program is to have.
const (
	top    = 1099511627776 // of a Sum, either way from 0, and of a Version
	topID  = 2147483647
	topArg = 1048576

	accepted  = 1
	conflict  = 2
	rejected  = 3
	malformed = 7

	opens  = 1
	adds   = 2
	takes  = 3
	closes = 4

	count = 1
	purs  = 2
	tall  = 3
)

// stateMayBe tells whether the state may be, by the chapter's words alone.
func stateMayBe(s api.State) bool {
	if s.Tag < 0 || s.Tag > 3 || s.Sum < -top || s.Sum > top || s.Version < 0 || s.Version > top {
		return false
	}
	if s.Tag == 0 && (s.Closed || s.Sum != 0 || s.Version != 0) {
		return false
	}
	if (s.Tag == 2 || s.Tag == 3) && s.Sum < 0 {
		return false
	}
	if s.Closed && s.Sum != 0 {
		return false
	}
	return s.Tag == 0 || s.Version >= 1
}

// orderMayBe tells whether the order may be, by chapter 9.
func orderMayBe(o api.Order) bool {
	return o.ID >= 1 && o.ID <= topID && o.Stream >= 0 && o.Stream <= 3 && o.Expect >= -1 && o.Expect <= topID &&
		o.Kind >= 1 && o.Kind <= 4 && o.Arg >= -topArg && o.Arg <= topArg
}

// within tells whether a number of any size is in the span.
func within(n *big.Int, least, most int64) bool {
	return n.Cmp(big.NewInt(least)) >= 0 && n.Cmp(big.NewInt(most)) <= 0
}

// behindByHand is the state behind the event, row by row of the chapter's table, with numbers of any size; false, if the
// event may not come to it.
func behindByHand(s api.State, e api.Event) (api.State, bool) {
	if !stateMayBe(s) || s.Version >= top || s.Closed {
		return s, false
	}
	old := s
	s.Version++
	switch {
	case e.Kind == 1 && s.Tag == 0 && (e.Arg == 1 || e.Arg == 2 || e.Arg == 3):
		s.Tag = e.Arg
		return s, true
	case e.Kind == 2 && s.Tag != 0 && e.Arg >= 1:
		sum := new(big.Int).Add(big.NewInt(int64(s.Sum)), big.NewInt(int64(e.Arg)))
		if within(sum, -top, top) {
			s.Sum = int(sum.Int64())
			return s, true
		}
	case e.Kind == 3 && (s.Tag == 1 || s.Tag == 2) && e.Arg >= 1:
		least := int64(-top)
		if s.Tag == 2 {
			least = 0
		}
		sum := new(big.Int).Sub(big.NewInt(int64(s.Sum)), big.NewInt(int64(e.Arg)))
		if within(sum, least, top) {
			s.Sum = int(sum.Int64())
			return s, true
		}
	case e.Kind == 4 && s.Tag != 0 && s.Sum == 0 && e.Arg == 0:
		s.Closed = true
		return s, true
	}
	return old, false
}

// decideByHand is what becomes of the order, by the chapter's words.
func decideByHand(s api.State, o api.Order) api.Outcome {
	switch {
	case !stateMayBe(s):
		return api.Outcome{Code: malformed}
	case !orderMayBe(o):
		return api.Outcome{Code: malformed, Version: s.Version}
	case o.Expect >= 0 && o.Expect != s.Version:
		return api.Outcome{Code: conflict, Version: s.Version}
	}
	e := api.Event{Kind: o.Kind, Arg: o.Arg}
	if o.Kind == 4 {
		e.Arg = 0
	}
	if _, ok := behindByHand(s, e); !ok {
		return api.Outcome{Code: rejected, Version: s.Version}
	}
	return api.Outcome{Code: accepted, Version: s.Version + 1, Events: []api.Event{e}}
}

// order is an order that expects no version.
func order(kind, arg int) api.Order {
	return api.Order{ID: 7, Stream: 1, Expect: -1, Kind: kind, Arg: arg}
}

// expecting is the order, where it expects that version.
func expecting(o api.Order, version int) api.Order {
	o.Expect = version
	return o
}

// sameOutcome tells whether both are one; events that are nil, and none, are one and the same.
func sameOutcome(a, b api.Outcome) bool {
	return a.Code == b.Code && a.Version == b.Version && slices.Equal(a.Events, b.Events)
}

// wantOutcome wants of the order just that outcome.
func wantOutcome(t *testing.T, s api.State, o api.Order, want api.Outcome) {
	t.Helper()
	if got := Decide(s, o); !sameOutcome(got, want) {
		t.Fatalf("Decide(%+v, %+v) = %+v, want %+v", s, o, got, want)
	}
}

// wantBare wants of the order that code and version, and no events.
func wantBare(t *testing.T, s api.State, o api.Order, code, version int) {
	t.Helper()
	wantOutcome(t, s, o, api.Outcome{Code: code, Version: version})
}

// wantAccepted wants the order to be accepted, with one version more, and an event of its kind with that Arg.
func wantAccepted(t *testing.T, s api.State, o api.Order, arg int) {
	t.Helper()
	wantOutcome(t, s, o, api.Outcome{Code: accepted, Version: s.Version + 1, Events: []api.Event{{Kind: o.Kind, Arg: arg}}})
}

// wantBehind wants just that state behind the event.
func wantBehind(t *testing.T, s api.State, e api.Event, want api.State) {
	t.Helper()
	if got := Apply(s, e); got != want {
		t.Fatalf("Apply(%+v, %+v) = %+v, want %+v", s, e, got, want)
	}
}

// wantAsItWas wants the event not to come to the state.
func wantAsItWas(t *testing.T, s api.State, e api.Event) {
	t.Helper()
	wantBehind(t, s, e, s)
}

// wantAsByHand wants the state behind the event that the second hand tells; it tells whether the event came to the state.
func wantAsByHand(t *testing.T, s api.State, e api.Event) bool {
	t.Helper()
	want, ok := behindByHand(s, e)
	wantBehind(t, s, e, want)
	return ok
}

// wantEachCode wants each code that an aggregate tells to have been told so often.
func wantEachCode(t *testing.T, told map[int]int, least int) {
	t.Helper()
	for _, code := range []int{accepted, conflict, rejected, malformed} {
		if told[code] < least {
			t.Errorf("only %d orders had the code %d", told[code], code)
		}
	}
}

// ends are ints at which all things end.
var ends = []int{math.MinInt, math.MinInt + 1, math.MaxInt - 1, math.MaxInt}

// someTags are tags that there are, and such that there are not.
func someTags() []int {
	return append([]int{-2, -1, 0, 1, 2, 3, 4, 5, 257, 1<<32 + 1}, ends...)
}

// someSums are sums at edges, within and without.
func someSums() []int {
	return append([]int{-top - 1, -top, -top + 1, -6, -1, 0, 1, 5, topArg, top - 1, top, top + 1, 2 * top}, ends...)
}

// someVersions are versions at edges, within and without.
func someVersions() []int {
	return append([]int{-top, -1, 0, 1, 2, 7, topID, topID + 1, top - 1, top, top + 1}, ends...)
}

// allStates are those of each tag, closed and open, with each sum and each version.
func allStates() []api.State {
	var l []api.State
	for _, tag := range someTags() {
		for _, sum := range someSums() {
			for _, version := range someVersions() {
				l = append(l, api.State{Tag: tag, Sum: sum, Version: version}, api.State{Tag: tag, Closed: true, Sum: sum, Version: version})
			}
		}
	}
	return l
}

// goodStates are those of all that may be.
func goodStates() []api.State {
	return slices.DeleteFunc(allStates(), func(s api.State) bool { return !stateMayBe(s) })
}

// allEvents are those of each kind, whether there is one or not, with each Arg at an edge.
func allEvents() []api.Event {
	var l []api.Event
	args := append([]int{-2*top - 1, -2 * top, -top - 1, -top, -topArg, -1, 0, 1, 2, 3, 4, 5, 6, topArg, top - 6, top - 5, top - 1, top,
		top + 1, top + 5, top + 6, 2*top - 1, 2 * top, 2*top + 1, 1 << 62, -1 << 62}, ends...)
	for _, kind := range append([]int{-1, 0, 1, 2, 3, 4, 5, 6, 257, 1<<32 + 2}, ends...) {
		for _, arg := range args {
			l = append(l, api.Event{Kind: kind, Arg: arg})
		}
	}
	return l
}

// goodEvents are events that may come to one state or another.
func goodEvents() []api.Event {
	return []api.Event{{Kind: opens, Arg: 1}, {Kind: opens, Arg: 2}, {Kind: opens, Arg: 3}, {Kind: adds, Arg: 1}, {Kind: adds, Arg: 5},
		{Kind: takes, Arg: 1}, {Kind: takes, Arg: 5}, {Kind: closes}}
}

// allOrders are those of each kind, whether there is one or not, with each Arg and each Expect at an edge, and some of
// which another field may not be.
func allOrders() []api.Order {
	var l []api.Order
	for _, kind := range append([]int{-1, 0, 1, 2, 3, 4, 5}, ends...) {
		for _, arg := range append([]int{-topArg - 1, -topArg, -1, 0, 1, 2, 3, 4, 5, 6, topArg, topArg + 1, top}, ends...) {
			for _, expect := range append([]int{-2, -1, 0, 1, 2, 3, 6, 7, 8, topID, topID + 1, top}, ends...) {
				l = append(l, api.Order{ID: 7, Stream: 1, Expect: expect, Kind: kind, Arg: arg})
			}
		}
	}
	for _, bad := range append([]int{-1, 4, topID + 1}, ends...) {
		for kind := 1; kind <= 4; kind++ {
			l = append(l, api.Order{ID: bad, Stream: 1, Expect: -1, Kind: kind, Arg: 1}, api.Order{ID: 7, Stream: bad, Expect: -1, Kind: kind, Arg: 1})
		}
	}
	return l
}

// randomState is a state that may be, half of them near an edge.
func randomState(r *rand.Rand) api.State {
	s := api.State{Tag: r.Intn(4)}
	if s.Tag == 0 {
		return s
	}
	s.Version = 1 + r.Intn(top)>>r.Intn(41)
	if r.Intn(8) == 0 {
		s.Version = top - r.Intn(3)
	}
	if r.Intn(8) == 0 {
		s.Closed = true
		return s
	}
	s.Sum = []int{0, top, r.Intn(6), r.Intn(top + 1)}[r.Intn(4)]
	if s.Sum > 0 {
		s.Sum -= r.Intn(min(s.Sum, topArg)) >> r.Intn(21)
	}
	if s.Tag == count && r.Intn(2) == 0 {
		s.Sum = -s.Sum
	}
	return s
}

// randomOrder is an order that may be; one in three expects some version near that one.
func randomOrder(r *rand.Rand, version int) api.Order {
	o := api.Order{ID: 1 + r.Intn(topID), Stream: r.Intn(4), Expect: -1, Kind: 1 + r.Intn(4), Arg: r.Intn(topArg+1) >> r.Intn(21)}
	switch r.Intn(6) {
	case 0:
		o.Arg = -o.Arg
	case 1, 2:
		o.Arg = r.Intn(5)
	}
	if near := version - 1 + r.Intn(3); r.Intn(3) == 0 && near >= 0 && near <= topID {
		o.Expect = near
	}
	return o
}

// randomEvent is any event, most of them of a kind that there is, and with an Arg that may come to some state.
func randomEvent(r *rand.Rand) api.Event {
	e := api.Event{Kind: 1 + r.Intn(4), Arg: r.Intn(2*top+2) >> r.Intn(42)}
	switch r.Intn(8) {
	case 0:
		e.Arg = int(r.Uint64()) >> r.Intn(64)
	case 1:
		e.Kind = int(r.Uint64()) >> r.Intn(64)
	case 2:
		e.Arg = 0
	case 3:
		e.Arg = 1 + r.Intn(4)
	}
	return e
}
