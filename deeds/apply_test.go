package deeds

import (
	"math"
	"math/rand"
	"testing"

	"archipelago/api"
)

// P12.2: the chapter's examples.
func TestExamplesOfApply(t *testing.T) {
	s := api.State{Tag: tall, Sum: 5, Version: 3}
	wantAsItWas(t, s, api.Event{Kind: takes, Arg: 1})
	wantBehind(t, s, api.Event{Kind: adds, Arg: 2}, api.State{Tag: tall, Sum: 7, Version: 4})
}

// P12.2: one event behind the other, written down by hand.
func TestAWholeLife(t *testing.T) {
	s := api.State{}
	for _, x := range []struct {
		e    api.Event
		want api.State
	}{
		{api.Event{Kind: adds, Arg: 1}, api.State{}},
		{api.Event{Kind: takes, Arg: 1}, api.State{}},
		{api.Event{Kind: closes}, api.State{}},
		{api.Event{Kind: opens, Arg: 2}, api.State{Tag: 2, Version: 1}},
		{api.Event{Kind: opens, Arg: 2}, api.State{Tag: 2, Version: 1}},
		{api.Event{Kind: adds, Arg: 9}, api.State{Tag: 2, Sum: 9, Version: 2}},
		{api.Event{Kind: takes, Arg: 10}, api.State{Tag: 2, Sum: 9, Version: 2}},
		{api.Event{Kind: takes, Arg: 4}, api.State{Tag: 2, Sum: 5, Version: 3}},
		{api.Event{Kind: closes}, api.State{Tag: 2, Sum: 5, Version: 3}},
		{api.Event{Kind: takes, Arg: 5}, api.State{Tag: 2, Version: 4}},
		{api.Event{Kind: closes, Arg: 1}, api.State{Tag: 2, Version: 4}},
		{api.Event{Kind: closes}, api.State{Tag: 2, Closed: true, Version: 5}},
		{api.Event{Kind: closes}, api.State{Tag: 2, Closed: true, Version: 5}},
		{api.Event{Kind: adds, Arg: 1}, api.State{Tag: 2, Closed: true, Version: 5}},
		{api.Event{Kind: opens, Arg: 1}, api.State{Tag: 2, Closed: true, Version: 5}},
	} {
		wantBehind(t, s, x.e, x.want)
		s = x.want
	}
	s = api.State{}
	for _, e := range []api.Event{{Kind: opens, Arg: 1}, {Kind: takes, Arg: 6}, {Kind: adds, Arg: 2}, {Kind: adds, Arg: 4}, {Kind: closes}} {
		s = Apply(s, e)
	}
	if want := (api.State{Tag: 1, Closed: true, Version: 5}); s != want {
		t.Errorf("the last state is %+v, want %+v", s, want)
	}
}

// P12.2: an event of a kind that there is not comes to no state.
func TestKindsThatThereAreNot(t *testing.T) {
	for _, kind := range append([]int{-4, -1, 0, 5, 6, 256, 257, 258, 259, 260, 1<<32 + 2}, ends...) {
		for _, arg := range []int{0, 1, 2, 3, 5} {
			for _, s := range goodStates() {
				wantAsItWas(t, s, api.Event{Kind: kind, Arg: arg})
			}
		}
	}
}

// P12.2: each tag is opened just from the zero state, by its number.
func TestOpens(t *testing.T) {
	for _, arg := range append([]int{-1, 0, 1, 2, 3, 4, 5, 257, 1<<32 + 1}, ends...) {
		e := api.Event{Kind: opens, Arg: arg}
		if arg >= 1 && arg <= 3 {
			wantBehind(t, api.State{}, e, api.State{Tag: arg, Version: 1})
		} else {
			wantAsItWas(t, api.State{}, e)
		}
		for tag := count; tag <= tall; tag++ {
			wantAsItWas(t, api.State{Tag: tag, Version: 1}, e)
			wantAsItWas(t, api.State{Tag: tag, Closed: true, Version: 2}, e)
		}
	}
}

// P12.2: events of each tag that come to just the edge of a sum, and one beyond, with Args far greater than an order's.
func TestGreatArgs(t *testing.T) {
	for _, from := range []int{-top, -top + 1, -1, 0, 1, 7, top - 1, top} {
		for tag := count; tag <= tall; tag++ {
			s := api.State{Tag: tag, Sum: from, Version: 3}
			if from < 0 && tag != count {
				continue
			}
			wantAsItWas(t, s, api.Event{Kind: adds, Arg: top - from + 1})
			if from < top {
				wantBehind(t, s, api.Event{Kind: adds, Arg: top - from}, api.State{Tag: tag, Sum: top, Version: 4})
			}
			least := 0
			if tag == count {
				least = -top
			}
			wantAsItWas(t, s, api.Event{Kind: takes, Arg: from - least + 1})
			if from > least && tag != tall {
				wantBehind(t, s, api.Event{Kind: takes, Arg: from - least}, api.State{Tag: tag, Sum: least, Version: 4})
			}
			if from > least && tag == tall {
				wantAsItWas(t, s, api.Event{Kind: takes, Arg: from - least})
			}
		}
	}
}

// P12.2: sums do not wrap round: Args with which they would come to a sum that may be again, if bits at the top were lost.
func TestSumsDoNotWrap(t *testing.T) {
	args := []int{math.MaxInt, math.MaxInt - 1, math.MaxInt - top, math.MaxInt - top + 1, math.MinInt, math.MinInt + 1, math.MinInt + top, 1 << 62,
		-1 << 62, 1<<62 + top, math.MaxInt32 + 1}
	for bits := 41; bits < 63; bits++ {
		args = append(args, 1<<bits+1, 1<<bits, 1<<bits-1, -1<<bits-1, -1<<bits, -1<<bits+1)
	}
	for _, arg := range args {
		for _, sum := range []int{-top, -1, 0, 1, top} {
			for tag := count; tag <= tall; tag++ {
				s := api.State{Tag: tag, Sum: sum, Version: 3}
				for _, kind := range []int{adds, takes, closes, opens} {
					wantAsByHand(t, s, api.Event{Kind: kind, Arg: arg})
				}
				if arg > 2*top || arg < 1 {
					wantAsItWas(t, s, api.Event{Kind: adds, Arg: arg})
					wantAsItWas(t, s, api.Event{Kind: takes, Arg: arg})
				}
			}
		}
	}
}

// P12.2: an add or a take wants an Arg of 1 at least, a close one of 0.
func TestSmallArgs(t *testing.T) {
	for tag := count; tag <= tall; tag++ {
		s, bare := api.State{Tag: tag, Sum: 5, Version: 3}, api.State{Tag: tag, Version: 3}
		for _, arg := range append([]int{-topArg, -6, -5, -1, 0}, math.MinInt, math.MinInt+1, -top) {
			wantAsItWas(t, s, api.Event{Kind: adds, Arg: arg})
			wantAsItWas(t, s, api.Event{Kind: takes, Arg: arg})
			wantAsItWas(t, bare, api.Event{Kind: adds, Arg: arg})
			wantAsItWas(t, bare, api.Event{Kind: takes, Arg: arg})
		}
		for _, arg := range append([]int{-1, 1, 2, topArg}, ends...) {
			wantAsItWas(t, bare, api.Event{Kind: closes, Arg: arg})
		}
		wantBehind(t, s, api.Event{Kind: adds, Arg: 1}, api.State{Tag: tag, Sum: 6, Version: 4})
		wantBehind(t, bare, api.Event{Kind: closes}, api.State{Tag: tag, Closed: true, Version: 4})
		wantAsItWas(t, s, api.Event{Kind: closes})
		wantAsItWas(t, api.State{Tag: tag, Sum: 1, Version: 3}, api.Event{Kind: closes})
	}
	wantAsItWas(t, api.State{Tag: count, Sum: -1, Version: 3}, api.Event{Kind: closes})
}

// P12.2: behind the last version no event comes; one ahead of it the last one does.
func TestNoEventBehindTheLastVersion(t *testing.T) {
	for _, s := range goodStates() {
		for _, e := range goodEvents() {
			if s.Version == top {
				wantAsItWas(t, s, e)
			}
		}
	}
	for tag := count; tag <= tall; tag++ {
		wantBehind(t, api.State{Tag: tag, Version: top - 1}, api.Event{Kind: adds, Arg: 1}, api.State{Tag: tag, Sum: 1, Version: top})
		wantBehind(t, api.State{Tag: tag, Version: top - 1}, api.Event{Kind: closes}, api.State{Tag: tag, Closed: true, Version: top})
	}
}

// P12.2: to a state that may not be no event comes: it stays as it is, each of its fields.
func TestStatesThatMayNotBeStay(t *testing.T) {
	tried := 0
	for _, s := range allStates() {
		if stateMayBe(s) {
			continue
		}
		tried++
		for _, e := range goodEvents() {
			wantAsItWas(t, s, e)
		}
	}
	if tried < 1000 {
		t.Errorf("only %d states were tried", tried)
	}
}

// P12.2: all states at edges with all events at edges are told as the second hand tells them.
func TestAllStatesWithAllEvents(t *testing.T) {
	came, stayed := 0, 0
	for _, s := range allStates() {
		for _, e := range allEvents() {
			if wantAsByHand(t, s, e) {
				came++
			} else {
				stayed++
			}
		}
	}
	if came < 1000 || stayed < 1000 {
		t.Errorf("only %d events came, and %d did not", came, stayed)
	}
}

// P12.2: random states and events, of which each field may be or not, are told as the second hand tells them.
func TestRandomApplies(t *testing.T) {
	r := rand.New(rand.NewSource(122))
	came, stayed := 0, 0
	for range 300000 {
		s, e := randomState(r), randomEvent(r)
		if r.Intn(8) == 0 {
			n := int(r.Uint64()) >> r.Intn(64)
			*[]*int{&s.Tag, &s.Sum, &s.Version}[r.Intn(3)] = n
		}
		if wantAsByHand(t, s, e) {
			came++
		} else {
			stayed++
		}
	}
	if came < 10000 || stayed < 10000 {
		t.Errorf("only %d events came, and %d did not", came, stayed)
	}
}
