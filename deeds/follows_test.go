package deeds

import (
	"math/rand"
	"testing"

	"archipelago/api"
)

// applied is the state behind all of the events.
func applied(s api.State, l []api.Event) api.State {
	for _, e := range l {
		s = Apply(s, e)
	}
	return s
}

// wantFollows wants of an order, and a state that may be, all that the chapter says follows; it tells the state behind.
func wantFollows(t *testing.T, s api.State, o api.Order) api.State {
	t.Helper()
	got := Decide(s, o)
	next := applied(s, got.Events)
	if got.Code != accepted {
		if len(got.Events) > 0 || next != s || got.Version != s.Version {
			t.Fatalf("Decide(%+v, %+v) = %+v, which leads to %+v", s, o, got, next)
		}
		return s
	}
	if len(got.Events) != 1 || !stateMayBe(next) || next.Version != got.Version || got.Version != s.Version+1 {
		t.Fatalf("Decide(%+v, %+v) = %+v, which leads to %+v", s, o, got, next)
	}
	wantGoesOn(t, s, next)
	return next
}

// wantGoesOn wants a state to have come to one behind it by just one event.
func wantGoesOn(t *testing.T, s, next api.State) {
	t.Helper()
	if s.Closed || s.Tag != 0 && next.Tag != s.Tag || next.Version != s.Version+1 {
		t.Fatalf("%+v came to %+v", s, next)
	}
	if next.Tag == purs && next.Sum < 0 || next.Tag == tall && next.Sum < s.Sum {
		t.Fatalf("%+v came to %+v", s, next)
	}
	if next.Closed && (next.Sum != 0 || s.Sum != 0) {
		t.Fatalf("%+v came to %+v", s, next)
	}
}

// P12.3: what is accepted, applied, leads to a state that may be, with the version that was told; all else leaves the
// state: of all states and orders at edges.
func TestWhatIsAcceptedLeadsOn(t *testing.T) {
	for _, s := range goodStates() {
		for _, o := range allOrders() {
			wantFollows(t, s, o)
		}
	}
}

// P12.3: likewise of many random orders, one behind the other, from the zero state on; versions are as many as events.
func TestManyOrdersOneBehindTheOther(t *testing.T) {
	r := rand.New(rand.NewSource(123))
	came := [4]map[int]int{{}, {}, {}, {}}
	for range 2000 {
		s := api.State{}
		var all []api.Event
		for range 60 {
			o := randomOrder(r, s.Version)
			if o.Kind == closes && r.Intn(4) > 0 {
				o.Kind = adds
			}
			all = append(all, Decide(s, o).Events...)
			next := wantFollows(t, s, o)
			if next != s {
				came[next.Tag][o.Kind]++
			}
			s = next
		}
		if applied(api.State{}, all) != s || s.Version != len(all) {
			t.Fatalf("%d events lead to %+v, not to %+v", len(all), applied(api.State{}, all), s)
		}
	}
	for tag := count; tag <= tall; tag++ {
		for kind := 1; kind <= 4; kind++ {
			if never := tag == tall && kind == takes; (came[tag][kind] > 20) == never {
				t.Errorf("tag %d had the kind %d %d times", tag, kind, came[tag][kind])
			}
		}
	}
}

// P12.3: likewise of random states near edges, and of some orders from there on.
func TestManyOrdersFromAnyState(t *testing.T) {
	r := rand.New(rand.NewSource(124))
	for range 30000 {
		s := randomState(r)
		if !stateMayBe(s) {
			t.Fatalf("the test itself is wrong: %+v may not be", s)
		}
		for range 8 {
			s = wantFollows(t, s, randomOrder(r, s.Version))
		}
	}
}

// P12.3: events of any kind and any Arg, one behind the other, lead from a state that may be just to such ones: a purse is
// never below 0, a tally never goes down, nothing comes to what was closed.
func TestManyEventsOneBehindTheOther(t *testing.T) {
	r := rand.New(rand.NewSource(125))
	for range 30000 {
		s := randomState(r)
		for range 10 {
			next := Apply(s, randomEvent(r))
			if !stateMayBe(next) {
				t.Fatalf("%+v came to %+v", s, next)
			}
			if next != s {
				wantGoesOn(t, s, next)
			}
			s = next
		}
	}
}

// P12.3: nothing comes to what was closed, by an order or by an event.
func TestNothingComesToWhatWasClosed(t *testing.T) {
	for tag := count; tag <= tall; tag++ {
		s := api.State{Tag: tag, Version: 2}
		o := order(closes, 0)
		wantAccepted(t, s, o, 0)
		s = Apply(s, Decide(s, o).Events[0])
		if !s.Closed {
			t.Fatalf("behind a close there is %+v", s)
		}
		for _, e := range allEvents() {
			wantAsItWas(t, s, e)
		}
		for _, o := range allOrders() {
			if got := Decide(s, o); got.Code == accepted || got.Version != 3 {
				t.Fatalf("Decide(%+v, %+v) = %+v", s, o, got)
			}
		}
	}
}

// P12.3: of two orders that expect one version the second one, behind the first one's event, has a conflict.
func TestTheSecondOneHasAConflict(t *testing.T) {
	r := rand.New(rand.NewSource(126))
	tried := 0
	for range 100000 {
		s := randomState(r)
		if s.Version > topID {
			continue
		}
		one, two := expecting(randomOrder(r, 0), s.Version), expecting(randomOrder(r, 0), s.Version)
		first := Decide(s, one)
		if first.Code != accepted {
			continue
		}
		tried++
		next := applied(s, first.Events)
		wantBare(t, next, two, conflict, s.Version+1)
		wantBare(t, next, one, conflict, s.Version+1)
	}
	if tried < 10000 {
		t.Errorf("only %d first orders were accepted", tried)
	}
}

// P12.3: adds and takes that may come in either order come to the same state.
func TestInEitherOrder(t *testing.T) {
	r := rand.New(rand.NewSource(127))
	either, one := 0, 0
	for range 200000 {
		s := randomState(r)
		a := api.Event{Kind: adds + r.Intn(2), Arg: 1 + r.Intn(topArg)>>r.Intn(20)}
		b := api.Event{Kind: adds + r.Intn(2), Arg: 1 + r.Intn(topArg)>>r.Intn(20)}
		forth, back := applied(s, []api.Event{a, b}), applied(s, []api.Event{b, a})
		if forth.Version != s.Version+2 || back.Version != s.Version+2 {
			one++
			continue
		}
		either++
		if forth != back {
			t.Fatalf("of %+v %+v and %+v lead to %+v, and the other way round to %+v", s, a, b, forth, back)
		}
		if want := s.Sum + signed(a) + signed(b); forth.Sum != want {
			t.Fatalf("of %+v %+v and %+v lead to the sum %d, want %d", s, a, b, forth.Sum, want)
		}
	}
	if either < 10000 || one < 10000 {
		t.Errorf("only %d came in either order, and %d did not", either, one)
	}
}

// signed is how much more the event makes of a sum.
func signed(e api.Event) int {
	if e.Kind == takes {
		return -e.Arg
	}
	return e.Arg
}

// P12.3: sums go by Args alone: many adds and takes, in any order in which all of them come, lead to one state, and that
// is the sum of what was added, less what was taken.
func TestSumsGoByArgsAlone(t *testing.T) {
	r := rand.New(rand.NewSource(128))
	for range 3000 {
		tag := 1 + r.Intn(3)
		start := api.State{Tag: tag, Sum: 20 * topArg, Version: 1 + r.Intn(9)}
		want := start
		var l []api.Event
		for range r.Intn(20) {
			e := api.Event{Kind: adds, Arg: 1 + r.Intn(topArg)}
			if tag != tall && r.Intn(2) == 0 {
				e.Kind = takes
			}
			want.Sum += signed(e)
			want.Version++
			l = append(l, e)
		}
		for range 3 {
			r.Shuffle(len(l), func(i, k int) { l[i], l[k] = l[k], l[i] })
			if got := applied(start, l); got != want {
				t.Fatalf("%+v of %+v lead to %+v, want %+v", l, start, got, want)
			}
		}
	}
}
