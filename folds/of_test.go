package folds

import (
	"math/rand"
	"slices"
	"testing"

	"archipelago/api"
	"archipelago/deeds"
)

// P13.1: the chapter's examples.
func TestExamplesOfOf(t *testing.T) {
	log := []api.Entry{entry(5, opens, 1), entry(6, adds, 3), entry(6, adds, 3), entry(7, takes, 9)}
	wantOf(t, log, api.State{Tag: count, Sum: -6, Version: 3},
		[]api.Outcome{took(1, opens, 1), took(2, adds, 3), bare(accepted, 2), took(3, takes, 9)})
	wantOf(t, nil, api.State{}, nil)
}

// P13.1: a log of none, whether it is nil or empty, and what there is behind it.
func TestALogOfNone(t *testing.T) {
	wantOf(t, []api.Entry{}, api.State{}, nil)
	wantOf(t, []api.Entry{entry(5, opens, 1)}[:0], api.State{}, nil)
}

// P13.1: a log of one entry: each order is decided from the zero state on.
func TestALogOfOne(t *testing.T) {
	for _, x := range []struct {
		e    api.Entry
		s    api.State
		want api.Outcome
	}{
		{entry(1, opens, 1), api.State{Tag: count, Version: 1}, took(1, opens, 1)},
		{entry(1, opens, 3), api.State{Tag: tall, Version: 1}, took(1, opens, 3)},
		{expecting(entry(1<<31-1, opens, 2), 0), api.State{Tag: purs, Version: 1}, took(1, opens, 2)},
		{entry(1, opens, 4), api.State{}, bare(rejected, 0)},
		{entry(1, adds, 1), api.State{}, bare(rejected, 0)},
		{entry(1, takes, 1), api.State{}, bare(rejected, 0)},
		{entry(1, closes, 0), api.State{}, bare(rejected, 0)},
		{expecting(entry(1, opens, 1), 1), api.State{}, bare(conflict, 0)},
		{entry(0, opens, 1), api.State{}, bare(malformed, 0)},
		{entry(1, 5, 1), api.State{}, bare(malformed, 0)},
		{expecting(entry(1, opens, 1), -2), api.State{}, bare(malformed, 0)},
		{api.Entry{}, api.State{}, bare(malformed, 0)},
	} {
		wantOf(t, []api.Entry{x.e}, x.s, []api.Outcome{x.want})
	}
}

// P13.1: a purse's log from its open to behind its close, written down by hand.
func TestAWholeLife(t *testing.T) {
	wantOf(t, []api.Entry{
		entry(11, adds, 1),
		entry(12, opens, purs),
		entry(13, opens, purs),
		expecting(entry(14, adds, 9), 1),
		expecting(entry(15, adds, 9), 1),
		entry(16, takes, 10),
		entry(17, 9, 1),
		entry(18, closes, 0),
		entry(19, takes, 9),
		entry(20, closes, 7),
		entry(21, adds, 1),
		expecting(entry(22, adds, 1), 3),
	}, api.State{Tag: purs, Closed: true, Version: 4}, []api.Outcome{
		bare(rejected, 0),
		took(1, opens, purs),
		bare(rejected, 1),
		took(2, adds, 9),
		bare(conflict, 2),
		bare(rejected, 2),
		bare(malformed, 2),
		bare(rejected, 2),
		took(3, takes, 9),
		took(4, closes, 0),
		bare(rejected, 4),
		bare(conflict, 4),
	})
}

// P13.1: an ID that came before, once and many times over, next to its first entry and far behind it, with the same order
// and with one of which another field is another one.
func TestAnIDThatCameBefore(t *testing.T) {
	head := []api.Entry{entry(5, opens, count), entry(6, adds, 3)}
	want := []api.Outcome{took(1, opens, count), took(2, adds, 3)}
	for _, second := range otherwise(head[1]) {
		for _, times := range []int{1, 2, 50} {
			log, l, s := slices.Clone(head), slices.Clone(want), api.State{Tag: count, Sum: 3, Version: 2}
			for range times {
				log, l = append(log, second), append(l, bare(accepted, 2))
			}
			wantOf(t, log, s, l)
			for k := range 60 {
				log, l = append(log, entry(100+k, adds, 1)), append(l, took(3+k, adds, 1))
			}
			s.Sum, s.Version = s.Sum+60, s.Version+60
			wantOf(t, log, s, l)
			for range times {
				log, l = append(log, second), append(l, bare(accepted, 2))
			}
			wantOf(t, log, s, l)
		}
	}
}

// P13.1: the second one of an order that was accepted, had a conflict, was rejected, was malformed: Code and Version are the
// first one's, also where the state's version is another one by then, and where it would be decided in another way by then.
func TestSecondOnesOfEachCode(t *testing.T) {
	head := []api.Entry{entry(5, opens, purs), entry(6, adds, 3)}
	heads := []api.Outcome{took(1, opens, purs), took(2, adds, 3)}
	for _, x := range []struct {
		first api.Entry
		want  api.Outcome
		s     api.State
	}{
		{entry(7, adds, 2), took(3, adds, 2), api.State{Tag: purs, Sum: 5, Version: 3}},
		{expecting(entry(7, takes, 2), 2), took(3, takes, 2), api.State{Tag: purs, Sum: 1, Version: 3}},
		{expecting(entry(7, adds, 2), 4), bare(conflict, 2), api.State{Tag: purs, Sum: 3, Version: 2}},
		{expecting(entry(7, adds, 2), 3), bare(conflict, 2), api.State{Tag: purs, Sum: 3, Version: 2}},
		{entry(7, takes, 5), bare(rejected, 2), api.State{Tag: purs, Sum: 3, Version: 2}},
		{entry(7, closes, 0), bare(rejected, 2), api.State{Tag: purs, Sum: 3, Version: 2}},
		{entry(7, 9, 1), bare(malformed, 2), api.State{Tag: purs, Sum: 3, Version: 2}},
		{expecting(entry(7, adds, 1), -2), bare(malformed, 2), api.State{Tag: purs, Sum: 3, Version: 2}},
	} {
		again := bare(x.want.Code, x.want.Version)
		for _, second := range otherwise(x.first) {
			log, l := append(slices.Clone(head), x.first, second), append(slices.Clone(heads), x.want, again)
			wantOf(t, log, x.s, l)

			sum, version := x.s.Sum, x.s.Version // and behind two more events
			log = append(log, entry(8, adds, 6), entry(9, adds, 7), second, second)
			l = append(l, took(version+1, adds, 6), took(version+2, adds, 7), again, again)
			s := api.State{Tag: purs, Sum: sum + 13, Version: version + 2}
			wantOf(t, log, s, l)

			log = append(log, entry(10, takes, s.Sum), second) // and where nothing is left
			l = append(l, took(s.Version+1, takes, s.Sum), again)
			s = api.State{Tag: purs, Version: s.Version + 1}
			wantOf(t, log, s, l)

			log = append(log, entry(11, closes, 0), second)
			l = append(l, took(s.Version+1, closes, 0), again)
			wantOf(t, log, api.State{Tag: purs, Closed: true, Version: s.Version + 1}, l)
		}
	}
}

// P13.1: an order that had no events is not tried once more: not even where it would be accepted by then.
func TestNothingIsTriedOnceMore(t *testing.T) {
	early := []api.Entry{entry(1, adds, 4), expecting(entry(2, adds, 4), 1), entry(3, 0, 4), entry(4, opens, 0)}
	outs := []api.Outcome{bare(rejected, 0), bare(conflict, 0), bare(malformed, 0), bare(rejected, 0)}
	for i, e := range early {
		good := expecting(entry(e.Order.ID, adds, 4), 1)
		wantOf(t, []api.Entry{e, entry(9, opens, tall), good}, api.State{Tag: tall, Version: 1}, []api.Outcome{outs[i], took(1, opens, tall), outs[i]})
		good.Order.ID = 10
		wantOf(t, []api.Entry{e, entry(9, opens, tall), good}, api.State{Tag: tall, Sum: 4, Version: 2},
			[]api.Outcome{outs[i], took(1, opens, tall), took(2, adds, 4)})
	}
}

// P13.1: orders behind a close, new ones and such as came before.
func TestBehindAClose(t *testing.T) {
	for tag := count; tag <= tall; tag++ {
		log := []api.Entry{entry(1, opens, tag), entry(2, closes, 5), entry(1, opens, tag), entry(2, closes, 5), entry(3, closes, 0), entry(4, adds, 1),
			entry(5, takes, 1), entry(6, opens, tag), expecting(entry(7, adds, 1), 1), expecting(entry(8, adds, 1), 2), entry(9, adds, 1<<20+1), entry(4, adds, 1)}
		wantOf(t, log, api.State{Tag: tag, Closed: true, Version: 2}, []api.Outcome{
			took(1, opens, tag), took(2, closes, 0), bare(accepted, 1), bare(accepted, 2), bare(rejected, 2), bare(rejected, 2),
			bare(rejected, 2), bare(rejected, 2), bare(conflict, 2), bare(rejected, 2), bare(malformed, 2), bare(rejected, 2)})
	}
}

// P13.1: orders that may not be, with an ID of 0 or below or beyond the last one, also twice, between such as may be; the
// second one with an order that may be but for its ID, and in another state.
func TestIDsThatMayNotBe(t *testing.T) {
	for _, id := range append([]int{0, -1, -2, -5, 1 << 31, 1<<32 + 5, 1<<32 + 6, 1 << 40}, ends...) {
		log := []api.Entry{entry(id, opens, 1), entry(5, opens, count), entry(id, opens, 1), entry(6, adds, 3), entry(id, 9, 9), entry(id, adds, 1)}
		wantOf(t, log, api.State{Tag: count, Sum: 3, Version: 2}, []api.Outcome{
			bare(malformed, 0), took(1, opens, count), bare(malformed, 0), took(2, adds, 3), bare(malformed, 0), bare(malformed, 0)})
		wantOf(t, log[1:], api.State{Tag: count, Sum: 3, Version: 2}, []api.Outcome{
			took(1, opens, count), bare(malformed, 1), took(2, adds, 3), bare(malformed, 1), bare(malformed, 1)})
	}
}

// P13.1: IDs that differ by one bit alone are of two orders, whether they may be or not, and whichever comes first.
func TestIDsThatDifferByOneBit(t *testing.T) {
	for bit := range 64 {
		other := 5 ^ 1<<bit
		second := took(2, adds, 3)
		if other < 1 || other > 1<<31-1 {
			second = bare(malformed, 1)
		}
		wantOf(t, []api.Entry{entry(5, opens, count), entry(other, adds, 3)}, applied(append([]api.Event{{Kind: opens, Arg: count}}, second.Events...)),
			[]api.Outcome{took(1, opens, count), second})
		log := []api.Entry{entry(other, 9, 0), entry(5, opens, count), entry(other, opens, count), entry(5, opens, count)}
		wantOf(t, log, api.State{Tag: count, Version: 1}, []api.Outcome{bare(malformed, 0), took(1, opens, count), bare(malformed, 0), bare(accepted, 1)})
		wantFind(t, log, other, 0, true)
		wantFind(t, log, 5, 1, true)
		wantFind(t, log[:1], 5, 0, false)
		wantFind(t, log[1:2], other, 0, false)
	}
}

// P13.1: orders that may not be, by another field than the ID: their IDs came before all the same.
func TestOrdersThatMayNotBe(t *testing.T) {
	for _, n := range append([]int{-1<<20 - 1, 1<<31 + 1}, ends...) {
		for field := range 4 {
			bad := entry(6, adds, 3)
			*[]*int{&bad.Order.Stream, &bad.Order.Expect, &bad.Order.Kind, &bad.Order.Arg}[field] = n
			log := []api.Entry{entry(5, opens, count), bad, entry(7, adds, 2), bad, entry(6, adds, 3), entry(8, adds, 3)}
			wantOf(t, log, api.State{Tag: count, Sum: 5, Version: 3}, []api.Outcome{
				took(1, opens, count), bare(malformed, 1), took(2, adds, 2), bare(malformed, 1), bare(malformed, 1), took(3, adds, 3)})
			log[1], log[4] = log[4], log[1]
			wantOf(t, log, api.State{Tag: count, Sum: 8, Version: 4}, []api.Outcome{
				took(1, opens, count), took(2, adds, 3), took(3, adds, 2), bare(accepted, 2), bare(accepted, 2), took(4, adds, 3)})
		}
	}
}

// P13.1: streams do not tell orders of one log apart: each that may be is as good, one that may not be makes an order malformed.
func TestStreams(t *testing.T) {
	for stream := range 4 {
		for other := range 4 {
			a, b, c := entry(5, opens, tall), entry(5, adds, 1), entry(6, adds, 2)
			a.Order.Stream, b.Order.Stream, c.Order.Stream = stream, other, other
			wantOf(t, []api.Entry{a, b, c}, api.State{Tag: tall, Sum: 2, Version: 2}, []api.Outcome{took(1, opens, tall), bare(accepted, 1), took(2, adds, 2)})
		}
	}
	for _, stream := range append([]int{-1, 4}, ends...) {
		a, b := entry(5, opens, tall), entry(6, opens, tall)
		a.Order.Stream = stream
		wantOf(t, []api.Entry{a, a, b, a}, api.State{Tag: tall, Version: 1}, []api.Outcome{bare(malformed, 0), bare(malformed, 0), took(1, opens, tall), bare(malformed, 0)})
	}
}

// P13.1: long logs: many IDs, each of which comes anew by and by, and one ID alone.
func TestLongLogs(t *testing.T) {
	for _, length := range []int{63, 64, 65, 255, 256, 257, 700, 5000} {
		log := []api.Entry{entry(1, opens, count)}
		for i := range length - 1 {
			log = append(log, entry(1+(i*7)%(length/2+1), adds+i%2, 1+i%5))
		}
		wantOfByHand(t, log)
		for i := range log {
			log[i].Order.ID = 1 << 20
		}
		l := wantOfByHand(t, log)
		if len(events(l)) != 1 {
			t.Fatalf("one order %d times had the events %+v", length, events(l))
		}
		for i := range log {
			log[i].Order.ID = length - i
		}
		wantOfByHand(t, log)
	}
}

// P13.1: a log of very many entries: each ID is the version to which its first entry comes, and behind each new one comes one
// that came before, from itself to far behind.
func TestAVeryLongLog(t *testing.T) {
	const last = 100000
	log, want := []api.Entry{entry(1, opens, count)}, []api.Outcome{took(1, opens, count)}
	for id := 2; id <= last; id++ {
		log = append(log, entry(id, takes, 1), entry(1+id/2, adds, 5))
		want = append(want, took(id, takes, 1), bare(accepted, 1+id/2))
	}
	s, l := Of(log)
	if s != (api.State{Tag: count, Sum: 1 - last, Version: last}) || len(l) != len(want) {
		t.Fatalf("%d entries come to %+v, with %d outcomes", len(log), s, len(l))
	}
	for i := range want {
		if !sameOutcomes(l[i:i+1], want[i:i+1]) {
			t.Fatalf("the outcome at %d is %+v, want %+v", i, l[i], want[i])
		}
	}
}

// P13.1: random logs are told as the second hand tells them.
func TestRandomLogs(t *testing.T) {
	r := rand.New(rand.NewSource(131))
	firsts, seconds, tags := map[int]int{}, map[int]int{}, map[int]int{}
	for range 30000 {
		log := randomLog(r, r.Intn(40))
		s, _ := ofByHand(log)
		tags[s.Tag]++
		for i, o := range wantOfByHand(t, log) {
			if cameBefore(log, i) < i {
				seconds[o.Code]++
			} else {
				firsts[o.Code]++
			}
		}
	}
	for _, code := range []int{accepted, conflict, rejected, malformed} {
		if firsts[code] < 5000 || seconds[code] < 5000 {
			t.Errorf("only %d orders had the code %d, and %d that came before", firsts[code], code, seconds[code])
		}
	}
	for tag := range 4 {
		if tags[tag] < 1000 {
			t.Errorf("only %d logs came to the tag %d", tags[tag], tag)
		}
	}
}

// P13.1: random logs of hundreds of entries likewise.
func TestRandomLongLogs(t *testing.T) {
	r := rand.New(rand.NewSource(132))
	for range 200 {
		wantOfByHand(t, randomLog(r, 100+r.Intn(700)))
	}
}

// P13.1: the log that is handed in stays as it is, also behind its end, and is not kept: what is written into it behind the
// call changes no answer.
func TestTheLogStays(t *testing.T) {
	r := rand.New(rand.NewSource(133))
	for range 300 {
		all := randomLog(r, 1+r.Intn(60))
		log, was := all[:r.Intn(len(all)+1)], slices.Clone(all)
		wantState, want := ofByHand(log)
		s, l := Of(log)
		if !slices.Equal(all, was) {
			t.Fatalf("the log %+v became %+v", was, all)
		}
		for i := range all {
			all[i] = api.Entry{Epoch: -9, Order: api.Order{ID: -9, Arg: -9}}
		}
		if s != wantState || !sameOutcomes(l, want) {
			t.Fatalf("the answer became %+v, %+v, want %+v, %+v", s, l, wantState, want)
		}
	}
}

// P13.1: outcomes and events are new memory: what is written into one list, or behind it, changes no other one of the same
// answer, and no other answer.
func TestAnswersAreNew(t *testing.T) {
	r := rand.New(rand.NewSource(134))
	for range 300 {
		log := randomLog(r, 1+r.Intn(30))
		wantState, want := ofByHand(log)
		_, first := Of(log)
		_, second := Of(log)
		for i := range first {
			spoilEvents(first[i].Events)
			if !sameOutcomes(first[i+1:], want[i+1:]) {
				t.Fatalf("events at %d changed the outcomes behind to %+v, want %+v", i, first[i+1:], want[i+1:])
			}
		}
		spoil(first)
		if !sameOutcomes(second, want) {
			t.Fatalf("the second answer became %+v, want %+v", second, want)
		}
		for i := len(second) - 1; i >= 0; i-- {
			spoilEvents(second[i].Events)
			if !sameOutcomes(second[:i], want[:i]) {
				t.Fatalf("events at %d changed the outcomes ahead to %+v, want %+v", i, second[:i], want[:i])
			}
		}
		wantOf(t, log, wantState, want)
	}
}

// P13.1: the second one's events are none, and the first one's stay its own.
func TestSecondOnesHaveNoEvents(t *testing.T) {
	log := []api.Entry{entry(5, opens, tall), entry(5, opens, tall), entry(6, adds, 2), entry(5, opens, tall), entry(6, adds, 2)}
	_, l := Of(log)
	for _, i := range []int{1, 3, 4} {
		if len(l[i].Events) != 0 {
			t.Fatalf("the outcome of %d is %+v", i, l[i])
		}
		_ = append(l[i].Events, api.Event{Kind: -1, Arg: -1})
		l[i].Code, l[i].Version = -1, -1
	}
	want := []api.Outcome{took(1, opens, tall), took(2, adds, 2)}
	if got := []api.Outcome{l[0], l[2]}; !sameOutcomes(got, want) {
		t.Fatalf("the first ones' outcomes became %+v, want %+v", got, want)
	}
}

// P13.1: what a call answers hangs on its arguments alone: behind others it is the same again.
func TestCallsAgain(t *testing.T) {
	log := []api.Entry{entry(5, opens, purs), entry(6, adds, 3), entry(7, takes, 4), entry(6, adds, 3)}
	want := []api.Outcome{took(1, opens, purs), took(2, adds, 3), bare(rejected, 2), bare(accepted, 2)}
	for range 3 {
		wantOf(t, log, api.State{Tag: purs, Sum: 3, Version: 2}, want)
		wantOf(t, log[1:], api.State{}, []api.Outcome{bare(rejected, 0), bare(rejected, 0), bare(rejected, 0)})
		wantOf(t, []api.Entry{entry(6, opens, count)}, api.State{Tag: count, Version: 1}, []api.Outcome{took(1, opens, count)})
		wantFind(t, log, 6, 1, true)
		wantFind(t, log[:1], 6, 0, false)
	}
}

// P13.1: each outcome of an ID that comes first is the aggregate's word for the state behind all that is ahead.
func TestOutcomesGoByTheStateAhead(t *testing.T) {
	r := rand.New(rand.NewSource(135))
	for range 2000 {
		log := randomLog(r, 1+r.Intn(25))
		_, l := Of(log)
		for i := range log {
			s, _ := Of(log[:i])
			want := deeds.Decide(s, log[i].Order)
			if k := cameBefore(log, i); k < i {
				want = bare(l[k].Code, l[k].Version)
			}
			if !sameOutcomes(l[i:i+1], []api.Outcome{want}) {
				t.Fatalf("of %+v the outcome at %d is %+v, want %+v", log, i, l[i], want)
			}
		}
	}
}
