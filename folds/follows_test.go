package folds

import (
	"math/rand"
	"slices"
	"testing"

	"archipelago/api"
	"archipelago/deeds"
)

// applied is the state behind all of the events, from the zero state on.
func applied(l []api.Event) api.State {
	s := api.State{}
	for _, e := range l {
		s = deeds.Apply(s, e)
	}
	return s
}

// someLogs are random logs, and some whose edges are all known.
func someLogs(seed int64, times int) [][]api.Entry {
	l := [][]api.Entry{nil, {entry(5, opens, 1)}, {entry(0, opens, 1)},
		{entry(5, opens, 1), entry(6, adds, 3), entry(6, adds, 3), entry(7, takes, 9)},
		{entry(1, opens, 3), entry(2, closes, 0), entry(1, opens, 2), entry(3, adds, 1), entry(3, adds, 1)}}
	r := rand.New(rand.NewSource(seed))
	for range times {
		l = append(l, randomLog(r, r.Intn(40)))
	}
	return append(l, randomLog(r, 300), randomLog(r, 700))
}

// P13.3: the outcomes of a beginning of a log are a beginning of its outcomes.
func TestBeginnings(t *testing.T) {
	for _, log := range someLogs(231, 2000) {
		_, l := Of(log)
		if len(l) != len(log) {
			t.Fatalf("%d entries have %d outcomes", len(log), len(l))
		}
		for i := range log {
			if _, got := Of(log[:i]); !sameOutcomes(got, l[:i]) {
				t.Fatalf("the first %d of %+v have the outcomes %+v, want %+v", i, log, got, l[:i])
			}
		}
	}
}

// P13.3: all events, in order, applied from the zero state on, lead to the state, whose version is how many they are.
func TestEventsLeadToTheState(t *testing.T) {
	most := 0
	for _, log := range someLogs(232, 10000) {
		s, l := Of(log)
		all := events(l)
		most = max(most, len(all))
		if got := applied(all); got != s || s.Version != len(all) {
			t.Fatalf("of %+v %d events lead to %+v, want %+v", log, len(all), got, s)
		}
	}
	if most < 40 {
		t.Errorf("no log had more than %d events", most)
	}
}

// P13.3: each of those events was told once, by an accepted order's first entry, with the version to which it led.
func TestEventsAreToldOnce(t *testing.T) {
	for _, log := range someLogs(233, 5000) {
		_, l := Of(log)
		version := 0
		for i, o := range l {
			if wants := o.Code == accepted && cameBefore(log, i) == i; wants != (len(o.Events) == 1) || len(o.Events) > 1 {
				t.Fatalf("of %+v the outcome at %d is %+v", log, i, o)
			}
			version += len(o.Events)
			if cameBefore(log, i) == i && o.Version != version {
				t.Fatalf("of %+v the outcome at %d is %+v, want version %d", log, i, o, version)
			}
		}
	}
}

// P13.3: an order that is put behind once more, however often, and whatever else it has then, changes nothing: the state and
// all outcomes ahead stay, and so does what becomes of all that comes behind.
func TestOnceMoreChangesNothing(t *testing.T) {
	r := rand.New(rand.NewSource(234))
	for _, log := range someLogs(235, 2000) {
		if len(log) == 0 {
			continue
		}
		s, l := Of(log)
		old := log[r.Intn(len(log))]
		place, _ := findByHand(log, old.Order.ID)
		more, want := slices.Clone(log), slices.Clone(l)
		for range 1 + r.Intn(5) {
			all := otherwise(old)
			more = append(more, all[r.Intn(len(all))])
			want = append(want, bare(l[place].Code, l[place].Version))
			wantOf(t, more, s, want)
		}
		tail := randomLog(r, r.Intn(10))
		s, with := Of(append(more, tail...))
		plain, without := Of(append(slices.Clone(log), tail...))
		if s != plain || !sameOutcomes(with[len(more):], without[len(log):]) {
			t.Fatalf("behind %+v, %+v comes to %+v, %+v, want %+v, %+v", more, tail, s, with[len(more):], plain, without[len(log):])
		}
	}
}

// P13.3: the whole log behind itself changes nothing, however often; so at most once.
func TestTheWholeLogOnceMore(t *testing.T) {
	for _, log := range someLogs(236, 2000) {
		s, l := Of(log)
		want := slices.Clone(l)
		for i := range log {
			k := cameBefore(log, i)
			want = append(want, bare(l[k].Code, l[k].Version))
		}
		wantOf(t, slices.Repeat(log, 2), s, want)
		wantOf(t, slices.Repeat(log, 3), s, append(want, want[len(l):]...))
	}
}

// P13.3: epochs make no difference: such as rise, fall, repeat, none, and the least and the greatest int.
func TestEpochsMakeNoDifference(t *testing.T) {
	r := rand.New(rand.NewSource(237))
	for _, log := range someLogs(238, 1000) {
		s, l := ofByHand(log)
		for _, epoch := range []func(i int) int{
			func(int) int { return 0 },
			func(int) int { return 1 << 20 },
			func(i int) int { return i + 1 },
			func(i int) int { return len(log) - i },
			func(i int) int { return i%3 - 1 },
			func(i int) int { return i / 3 },
			func(i int) int { return ends[i%len(ends)] },
			func(int) int { return int(r.Uint64()) >> r.Intn(64) },
		} {
			for i := range log {
				log[i].Epoch = epoch(i)
			}
			wantOf(t, log, s, l)
			for i := range log {
				place, ok := findByHand(log, log[i].Order.ID)
				wantFind(t, log, log[i].Order.ID, place, ok)
			}
		}
	}
}

// P13.3: one order in two epochs, that rise, fall or are one, is one order.
func TestOneOrderInTwoEpochs(t *testing.T) {
	for _, epochs := range [][3]int{{1, 2, 3}, {3, 2, 1}, {2, 2, 2}, {1, 3, 1}, {ends[0], 0, ends[3]}, {ends[3], -1, ends[0]}} {
		log := []api.Entry{entry(5, opens, count), entry(6, adds, 3), entry(6, adds, 3)}
		for i := range log {
			log[i].Epoch = epochs[i]
		}
		wantOf(t, log, api.State{Tag: count, Sum: 3, Version: 2}, []api.Outcome{took(1, opens, count), took(2, adds, 3), bare(accepted, 2)})
		wantFind(t, log, 6, 1, true)
	}
}
