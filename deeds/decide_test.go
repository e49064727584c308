package deeds

import (
	"math"
	"math/rand"
	"testing"

	"archipelago/api"
)

// P12.1: the chapter's examples.
func TestExamplesOfDecide(t *testing.T) {
	zero := api.State{}
	wantAccepted(t, zero, order(opens, 2), 2)
	wantBare(t, zero, order(opens, 4), rejected, 0)
	wantBare(t, zero, order(adds, 1), rejected, 0)
	wantBare(t, zero, expecting(order(opens, 2), 1), conflict, 0)
	wantBare(t, zero, expecting(order(adds, 1), 1), conflict, 0)

	s := api.State{Tag: purs, Sum: 5, Version: 3}
	wantOutcome(t, s, order(takes, 5), api.Outcome{Code: 1, Version: 4, Events: []api.Event{{Kind: 3, Arg: 5}}})
	wantBare(t, s, order(takes, 6), rejected, 3)
	wantBare(t, s, order(adds, 0), rejected, 3)
	wantBare(t, s, order(closes, 0), rejected, 3)

	wantBare(t, api.State{Tag: purs, Sum: -1, Version: 3}, order(adds, 1), malformed, 0)
	o := order(adds, 1)
	o.ID = 0
	wantBare(t, s, o, malformed, 3)
}

// P12.1: api and the package have the document's numbers.
func TestNumbers(t *testing.T) {
	if kinds := [4]int{api.OrOpen, api.OrAdd, api.OrTake, api.OrClose}; kinds != [4]int{opens, adds, takes, closes} {
		t.Errorf("the kinds are %v, want 1 to 4", kinds)
	}
	if tags := [3]int{api.TagCount, api.TagPurse, api.TagTally}; tags != [3]int{count, purs, tall} {
		t.Errorf("the tags are %v, want 1 to 3", tags)
	}
	if codes := [4]int{api.Accepted, api.Conflict, api.Rejected, api.Malformed}; codes != [4]int{accepted, conflict, rejected, malformed} {
		t.Errorf("the codes are %v, want 1, 2, 3, 7", codes)
	}
	if api.MaxArg != topArg || most != top {
		t.Errorf("MaxArg, most = %d, %d, want 2^20, 2^40", api.MaxArg, most)
	}
}

// P12.1: which states may be, written down one by one: an order that may be is malformed just of those that may not.
func TestWhichStatesMayBe(t *testing.T) {
	good := []api.State{
		{},
		{Tag: count, Version: 1}, {Tag: purs, Version: 1}, {Tag: tall, Version: 1},
		{Tag: count, Closed: true, Version: 1}, {Tag: purs, Closed: true, Version: 2}, {Tag: tall, Closed: true, Version: 9},
		{Tag: count, Sum: -1, Version: 1}, {Tag: count, Sum: 1, Version: 1}, {Tag: purs, Sum: 1, Version: 1}, {Tag: tall, Sum: 1, Version: 1},
		{Tag: count, Sum: 1 << 40, Version: 1}, {Tag: purs, Sum: 1 << 40, Version: 1}, {Tag: tall, Sum: 1 << 40, Version: 1},
		{Tag: count, Sum: -1 << 40, Version: 1}, {Tag: count, Sum: 1, Version: 1 << 40}, {Tag: purs, Version: 1 << 40},
		{Tag: tall, Sum: 1 << 40, Version: 1 << 40}, {Tag: count, Closed: true, Version: 1 << 40},
	}
	bad := []api.State{
		{Closed: true}, {Sum: 1}, {Sum: -1}, {Version: 1}, {Version: -1}, {Version: 1 << 40}, {Version: 1<<40 + 1}, {Sum: 1 << 40},
		{Closed: true, Version: 1}, {Tag: -1}, {Tag: 4}, {Tag: -1, Version: 1}, {Tag: 4, Version: 1}, {Tag: 4, Closed: true, Version: 1},
		{Tag: count}, {Tag: purs}, {Tag: tall}, {Tag: count, Version: -1}, {Tag: purs, Version: -1}, {Tag: tall, Version: -1},
		{Tag: count, Sum: 5}, {Tag: purs, Sum: 5}, {Tag: tall, Sum: 5}, {Tag: count, Closed: true}, {Tag: tall, Closed: true},
		{Tag: count, Version: 1<<40 + 1}, {Tag: purs, Version: 1<<40 + 1}, {Tag: tall, Version: 1<<40 + 1},
		{Tag: count, Sum: 1<<40 + 1, Version: 1}, {Tag: purs, Sum: 1<<40 + 1, Version: 1}, {Tag: tall, Sum: 1<<40 + 1, Version: 1},
		{Tag: count, Sum: -1<<40 - 1, Version: 1}, {Tag: purs, Sum: -1, Version: 1}, {Tag: tall, Sum: -1, Version: 1},
		{Tag: purs, Sum: -1 << 40, Version: 1}, {Tag: tall, Sum: -1 << 40, Version: 1},
		{Tag: count, Closed: true, Sum: 1, Version: 1}, {Tag: purs, Closed: true, Sum: 1, Version: 1},
		{Tag: tall, Closed: true, Sum: 1, Version: 1}, {Tag: count, Closed: true, Sum: -1, Version: 1},
	}
	for _, s := range good {
		for kind := 1; kind <= 4; kind++ {
			if got := Decide(s, order(kind, 1)); got.Code == malformed {
				t.Errorf("Decide(%+v, kind %d) = %+v, but the state may be", s, kind, got)
			}
		}
	}
	for _, s := range bad {
		for kind := 1; kind <= 4; kind++ {
			wantBare(t, s, order(kind, 1), malformed, 0)
		}
	}
}

// P12.1: each field of a state at the least and the greatest int, and beyond what may be.
func TestEachFieldOfAStateWrong(t *testing.T) {
	for tag := range 4 {
		s := api.State{Tag: tag, Version: min(tag, 1)}
		for _, n := range ends {
			for _, bad := range []api.State{
				{Tag: n, Version: s.Version},
				{Tag: s.Tag, Sum: n, Version: s.Version},
				{Tag: s.Tag, Version: n},
				{Tag: n, Sum: n, Version: n},
				{Tag: n, Closed: true, Sum: n, Version: n},
			} {
				for kind := 1; kind <= 4; kind++ {
					wantBare(t, bad, order(kind, 1), malformed, 0)
					wantBare(t, bad, expecting(order(kind, 1), 1), malformed, 0)
				}
			}
		}
	}
}

// P12.1: an order that may not be, by each of its fields, with a state that may be, and with one that may not; whatever
// version it expects.
func TestOrdersThatMayNotBe(t *testing.T) {
	o := order(adds, 1)
	var bad []api.Order
	for _, n := range append([]int{-1, 0, topID + 1}, ends...) {
		bad = append(bad, api.Order{ID: n, Stream: o.Stream, Expect: o.Expect, Kind: o.Kind, Arg: o.Arg})
	}
	for _, n := range append([]int{-1, 4}, ends...) {
		bad = append(bad, api.Order{ID: o.ID, Stream: n, Expect: o.Expect, Kind: o.Kind, Arg: o.Arg})
	}
	for _, n := range append([]int{-2, -3, topID + 1, top}, ends...) {
		bad = append(bad, api.Order{ID: o.ID, Stream: o.Stream, Expect: n, Kind: o.Kind, Arg: o.Arg})
	}
	for _, n := range append([]int{-1, 0, 5, 6, 257, 1<<32 + 2}, ends...) {
		bad = append(bad, api.Order{ID: o.ID, Stream: o.Stream, Expect: o.Expect, Kind: n, Arg: o.Arg})
	}
	for _, n := range append([]int{-topArg - 1, topArg + 1, top, -top}, ends...) {
		bad = append(bad, api.Order{ID: o.ID, Stream: o.Stream, Expect: o.Expect, Kind: o.Kind, Arg: n})
		bad = append(bad, api.Order{ID: o.ID, Stream: o.Stream, Expect: o.Expect, Kind: closes, Arg: n})
	}
	bad = append(bad, api.Order{}, api.Order{ID: 0, Stream: 4, Expect: 9, Kind: 5, Arg: topArg + 1})
	for _, x := range bad {
		for _, s := range goodStates() {
			wantBare(t, s, x, malformed, s.Version)
		}
		for _, s := range []api.State{{Tag: 4, Version: 3}, {Tag: purs, Sum: -1, Version: 3}, {Version: 3}, {Tag: count, Version: top + 1}} {
			wantBare(t, s, x, malformed, 0)
		}
	}
}

// P12.1: the edges of what the order's own ID and stream may be make no difference.
func TestIDsAndStreams(t *testing.T) {
	s := api.State{Tag: count, Sum: 2, Version: 4}
	for _, id := range []int{1, 2, 64, topID - 1, topID} {
		for stream := range 4 {
			wantAccepted(t, s, api.Order{ID: id, Stream: stream, Expect: -1, Kind: adds, Arg: 3}, 3)
			wantAccepted(t, s, api.Order{ID: id, Stream: stream, Expect: 4, Kind: takes, Arg: 3}, 3)
			wantBare(t, s, api.Order{ID: id, Stream: stream, Expect: 5, Kind: adds, Arg: 3}, conflict, 4)
			wantBare(t, s, api.Order{ID: id, Stream: stream, Expect: 4, Kind: opens, Arg: 3}, rejected, 4)
		}
	}
}

// P12.1: of each tag, open and closed, each of the four kinds, with Args at edges.
func TestEachKindOfEachTag(t *testing.T) {
	zero := api.State{}
	for _, arg := range []int{-topArg, -1, 0, 1, 2, 3, 4, 5, topArg} {
		if arg >= 1 && arg <= 3 {
			wantAccepted(t, zero, order(opens, arg), arg)
		} else {
			wantBare(t, zero, order(opens, arg), rejected, 0)
		}
		wantBare(t, zero, order(adds, arg), rejected, 0)
		wantBare(t, zero, order(takes, arg), rejected, 0)
		wantBare(t, zero, order(closes, arg), rejected, 0)
		for tag := count; tag <= tall; tag++ {
			s := api.State{Tag: tag, Sum: topArg, Version: 6}
			wantBare(t, s, order(opens, arg), rejected, 6)
			wantBare(t, s, order(closes, arg), rejected, 6)
			if arg < 1 {
				wantBare(t, s, order(adds, arg), rejected, 6)
				wantBare(t, s, order(takes, arg), rejected, 6)
			} else {
				wantAccepted(t, s, order(adds, arg), arg)
			}
			if arg >= 1 && tag != tall {
				wantAccepted(t, s, order(takes, arg), arg)
			} else {
				wantBare(t, s, order(takes, arg), rejected, 6)
			}
			wantAccepted(t, api.State{Tag: tag, Version: 6}, order(closes, arg), 0)
			for kind := 1; kind <= 4; kind++ {
				wantBare(t, api.State{Tag: tag, Closed: true, Version: 6}, order(kind, arg), rejected, 6)
			}
		}
	}
}

// P12.1: orders that come to just the edge of a sum, and one beyond.
func TestSumsAtTheirEdges(t *testing.T) {
	for _, arg := range []int{1, 2, 5, topArg - 1, topArg} {
		for tag := count; tag <= tall; tag++ {
			wantAccepted(t, api.State{Tag: tag, Sum: top - arg, Version: 2}, order(adds, arg), arg)
			wantBare(t, api.State{Tag: tag, Sum: top - arg + 1, Version: 2}, order(adds, arg), rejected, 2)
			wantBare(t, api.State{Tag: tag, Sum: top, Version: 2}, order(adds, arg), rejected, 2)
		}
		wantAccepted(t, api.State{Tag: count, Sum: -top + arg, Version: 2}, order(takes, arg), arg)
		wantBare(t, api.State{Tag: count, Sum: -top + arg - 1, Version: 2}, order(takes, arg), rejected, 2)
		wantBare(t, api.State{Tag: count, Sum: -top, Version: 2}, order(takes, arg), rejected, 2)
		wantAccepted(t, api.State{Tag: count, Sum: -top, Version: 2}, order(adds, arg), arg)
		wantAccepted(t, api.State{Tag: count, Sum: top, Version: 2}, order(takes, arg), arg)
		wantAccepted(t, api.State{Tag: count, Sum: arg - 1, Version: 2}, order(takes, arg), arg)
		wantAccepted(t, api.State{Tag: purs, Sum: arg, Version: 2}, order(takes, arg), arg)
		wantAccepted(t, api.State{Tag: purs, Sum: top, Version: 2}, order(takes, arg), arg)
		wantBare(t, api.State{Tag: purs, Sum: arg - 1, Version: 2}, order(takes, arg), rejected, 2)
		wantBare(t, api.State{Tag: purs, Sum: 0, Version: 2}, order(takes, arg), rejected, 2)
		wantBare(t, api.State{Tag: tall, Sum: arg, Version: 2}, order(takes, arg), rejected, 2)
		wantBare(t, api.State{Tag: tall, Sum: top, Version: 2}, order(takes, arg), rejected, 2)
	}
}

// P12.1: a close wants a sum of 0, whatever its Arg is, and comes to an event whose Arg is 0.
func TestCloses(t *testing.T) {
	for _, arg := range []int{-topArg, -7, -1, 0, 1, 7, topArg} {
		for tag := count; tag <= tall; tag++ {
			wantAccepted(t, api.State{Tag: tag, Version: 1}, order(closes, arg), 0)
			wantAccepted(t, api.State{Tag: tag, Version: top - 1}, order(closes, arg), 0)
			wantBare(t, api.State{Tag: tag, Sum: 1, Version: 1}, order(closes, arg), rejected, 1)
			wantBare(t, api.State{Tag: tag, Sum: top, Version: 1}, order(closes, arg), rejected, 1)
		}
		wantBare(t, api.State{Tag: count, Sum: -1, Version: 1}, order(closes, arg), rejected, 1)
		wantBare(t, api.State{}, order(closes, arg), rejected, 0)
	}
}

// P12.1: a version that is expected is held against the state's ahead of what the aggregate says, whether it would take
// the order or not; none is, below 0.
func TestExpect(t *testing.T) {
	for _, s := range goodStates() {
		for _, x := range []api.Order{order(opens, 2), order(opens, 4), order(adds, 1), order(takes, 1), order(closes, 1)} {
			free := Decide(s, x)
			for _, expect := range []int{0, 1, s.Version - 1, s.Version, s.Version + 1, topID} {
				if expect < 0 || expect > topID {
					continue
				}
				if expect == s.Version {
					wantOutcome(t, s, expecting(x, expect), free)
				} else {
					wantBare(t, s, expecting(x, expect), conflict, s.Version)
				}
			}
		}
	}
	wantAccepted(t, api.State{}, expecting(order(opens, 1), 0), 1)
	s := api.State{Tag: tall, Sum: 3, Version: topID}
	wantAccepted(t, s, expecting(order(adds, 1), topID), 1)
	wantBare(t, s, expecting(order(adds, 1), topID-1), conflict, topID)
	s.Version = 1<<32 + 5
	wantBare(t, s, expecting(order(adds, 1), 5), conflict, 1<<32+5)
	wantAccepted(t, s, order(adds, 1), 1)
}

// P12.1: behind the last version nothing is accepted; one ahead of it the last thing is.
func TestTheLastVersion(t *testing.T) {
	for tag := count; tag <= tall; tag++ {
		last, ahead := api.State{Tag: tag, Version: top}, api.State{Tag: tag, Version: top - 1}
		wantBare(t, last, order(adds, 1), rejected, top)
		wantBare(t, last, order(closes, 0), rejected, top)
		wantBare(t, last, order(opens, 1), rejected, top)
		wantBare(t, last, expecting(order(adds, 1), 0), conflict, top)
		wantAccepted(t, ahead, order(adds, 1), 1)
		wantAccepted(t, ahead, order(closes, 0), 0)
		last.Sum, ahead.Sum = 4, 4
		wantBare(t, last, order(takes, 1), rejected, top)
		if tag != tall {
			wantAccepted(t, ahead, order(takes, 1), 1)
		}
	}
}

// P12.1: all states at edges with all orders at edges are told as the second hand tells them.
func TestAllStatesWithAllOrders(t *testing.T) {
	l := allOrders()
	told := map[int]int{}
	for i, s := range allStates() {
		if !stateMayBe(s) { // told by the state alone: so a part of the orders is enough
			for k := i % 97; k < len(l); k += 97 {
				wantBare(t, s, l[k], malformed, 0)
			}
			continue
		}
		for _, o := range l {
			want := decideByHand(s, o)
			told[want.Code]++
			wantOutcome(t, s, o, want)
		}
	}
	wantEachCode(t, told, 100)
}

// P12.1: random states and orders, of which each field may be or not, are told as the second hand tells them.
func TestRandomDecides(t *testing.T) {
	r := rand.New(rand.NewSource(121))
	told := map[int]int{}
	for range 300000 {
		s := randomState(r)
		o := randomOrder(r, s.Version)
		if r.Intn(4) == 0 {
			n := int(r.Uint64()) >> r.Intn(64)
			*[]*int{&s.Tag, &s.Sum, &s.Version}[r.Intn(3)] = n
		}
		if r.Intn(4) == 0 {
			n := int(r.Uint64()) >> r.Intn(64)
			*[]*int{&o.ID, &o.Stream, &o.Expect, &o.Kind, &o.Arg}[r.Intn(5)] = n
		}
		if r.Intn(16) == 0 {
			s.Closed = !s.Closed
		}
		want := decideByHand(s, o)
		told[want.Code]++
		wantOutcome(t, s, o, want)
	}
	wantEachCode(t, told, 10000)
}

// P12.1: events that are answered are new: what is done with them changes nothing, and no two answers share any.
func TestEventsAreNew(t *testing.T) {
	s, o := api.State{Tag: count, Sum: 5, Version: 3}, order(takes, 9)
	want := api.Outcome{Code: accepted, Version: 4, Events: []api.Event{{Kind: takes, Arg: 9}}}
	first, second := Decide(s, o), Decide(s, o)
	first.Events[0] = api.Event{Kind: math.MaxInt, Arg: math.MinInt}
	_ = append(first.Events[:0], api.Event{}, api.Event{}, api.Event{})
	if !sameOutcome(second, want) {
		t.Fatalf("the second answer is %+v, want %+v", second, want)
	}
	wantOutcome(t, s, o, want)
	for _, other := range []api.Order{order(adds, 2), order(closes, 0), order(opens, 1)} {
		l := Decide(s, other).Events
		_ = append(l[:0], api.Event{Kind: 9, Arg: 9})
		wantOutcome(t, s, o, want)
	}
}

// P12.1, P12.2: what a call answers hangs on its arguments alone: behind others it is the same again.
func TestCallsAgain(t *testing.T) {
	s := api.State{Tag: purs, Sum: 5, Version: 3}
	for range 3 {
		wantAccepted(t, s, order(takes, 5), 5)
		wantBare(t, s, order(takes, 6), rejected, 3)
		wantBare(t, s, expecting(order(takes, 5), 4), conflict, 3)
		wantBare(t, s, api.Order{}, malformed, 3)
		wantBare(t, api.State{Tag: 9}, order(takes, 5), malformed, 0)
		wantBehind(t, s, api.Event{Kind: takes, Arg: 5}, api.State{Tag: purs, Version: 4})
		wantAsItWas(t, s, api.Event{Kind: takes, Arg: 6})
		wantAsItWas(t, api.State{Tag: 9}, api.Event{Kind: adds, Arg: 1})
	}
}
