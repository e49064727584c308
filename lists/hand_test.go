package lists

import (
	"math"
	"math/rand"
	"slices"
	"testing"

	"archipelago/api"
)

// ends are ints at which all things end.
var ends = []int{math.MinInt, math.MinInt + 1, math.MaxInt - 1, math.MaxInt}

// a, b and c are the chapter's entries: unlike ones, of the epochs 1, 1 and 3.
var a, b, c = entry(1, 11), entry(1, 12), entry(3, 13)

// entry is one of that epoch, and of an order that is told by its ID.
func entry(epoch, id int) api.Entry {
	return api.Entry{Epoch: epoch, Order: api.Order{ID: id, Stream: 1, Expect: -1, Kind: 2, Arg: 5}}
}

// logOf is a log of those entries.
func logOf(l ...api.Entry) []api.Entry {
	return l
}

// ofEpochs is a log of unlike orders, of those epochs.
func ofEpochs(epochs ...int) []api.Entry {
	var log []api.Entry
	for i, epoch := range epochs {
		log = append(log, entry(epoch, 100+i))
	}
	return log
}

// numbers are all that an entry has.
func numbers(e api.Entry) [6]int {
	return [6]int{e.Epoch, e.Order.ID, e.Order.Stream, e.Order.Expect, e.Order.Kind, e.Order.Arg}
}

// fields are where an entry has its numbers.
func fields(e *api.Entry) []*int {
	return []*int{&e.Epoch, &e.Order.ID, &e.Order.Stream, &e.Order.Expect, &e.Order.Kind, &e.Order.Arg}
}

// otherwise are entries that are unlike the given one in one field alone, each field of the entry and of its order by
// itself: by one, by the sign, by none of the lower bits, and by all that an int may have.
func otherwise(e api.Entry) []api.Entry {
	var l []api.Entry
	for i := range fields(&e) {
		n := *fields(&e)[i]
		for _, other := range append([]int{n + 1, n - 1, -n, 0, n + 1<<32, n ^ math.MinInt}, ends...) {
			if other != n {
				x := e
				*fields(&x)[i] = other
				l = append(l, x)
			}
		}
	}
	return l
}

// isSame tells whether both logs are one, number by number.
func isSame(a, b []api.Entry) bool {
	if len(a) != len(b) {
		return false
	}
	for i := range a {
		if numbers(a[i]) != numbers(b[i]) {
			return false
		}
	}
	return true
}

// beginnings are all beginnings of a log, from that of none to the log itself.
func beginnings(log []api.Entry) [][]api.Entry {
	l := [][]api.Entry{nil}
	for i := range log {
		l = append(l, log[:i+1])
	}
	return l
}

// prefixByHand looks for a among all beginnings of b.
func prefixByHand(a, b []api.Entry) bool {
	return slices.ContainsFunc(beginnings(b), func(x []api.Entry) bool { return isSame(a, x) })
}

// commonByHand looks for the longest one of a's beginnings that is among those of b.
func commonByHand(a, b []api.Entry) int {
	longest := 0
	for _, x := range beginnings(a) {
		if prefixByHand(x, b) {
			longest = max(longest, len(x))
		}
	}
	return longest
}

// bestByHand leaves out the places by one word of the chapter behind the other.
func bestByHand(l []api.Register) int {
	view, length := math.MinInt, 0
	for _, r := range l {
		view = max(view, r.View)
	}
	for _, r := range l {
		if r.View == view {
			length = max(length, len(r.Log))
		}
	}
	for i, r := range l {
		if r.View == view && len(r.Log) == length {
			return i
		}
	}
	return -1
}

// epochsOf are the log's epochs.
func epochsOf(log []api.Entry) []int {
	var l []int
	for _, e := range log {
		l = append(l, e.Epoch)
	}
	return l
}

// risingByHand holds the epochs against themselves in order.
func risingByHand(log []api.Entry) bool {
	l := epochsOf(log)
	sorted := slices.Clone(l)
	slices.Sort(sorted)
	return slices.Equal(l, sorted)
}

// sealsByHand lays run by run of one epoch, from behind.
func sealsByHand(log []api.Entry) []int {
	var l []int
	for at := len(log); at > 0; {
		l = append(l, at)
		epoch := log[at-1].Epoch
		for at > 0 && log[at-1].Epoch == epoch {
			at--
		}
	}
	slices.Reverse(l)
	return l
}

// unlike tells how many unlike epochs a log has.
func unlike(log []api.Entry) int {
	l := epochsOf(log)
	slices.Sort(l)
	return len(slices.Compact(l))
}

// wantPrefix wants that word of Prefix, and both logs to stay as they are.
func wantPrefix(t *testing.T, a, b []api.Entry, want bool) {
	t.Helper()
	wasA, wasB := slices.Clone(a), slices.Clone(b)
	if got := Prefix(a, b); got != want {
		t.Fatalf("Prefix(%v, %v) = %t, want %t", a, b, got, want)
	}
	if !isSame(a, wasA) || !isSame(b, wasB) {
		t.Fatalf("Prefix(%v, %v) changed them to %v, %v", wasA, wasB, a, b)
	}
}

// wantCommon wants that number of Common, either way round, and both logs to stay as they are.
func wantCommon(t *testing.T, a, b []api.Entry, want int) {
	t.Helper()
	wasA, wasB := slices.Clone(a), slices.Clone(b)
	if got, back := Common(a, b), Common(b, a); got != want || back != want {
		t.Fatalf("Common(%v, %v) = %d, and %d the other way round, want %d", a, b, got, back, want)
	}
	if !isSame(a, wasA) || !isSame(b, wasB) {
		t.Fatalf("Common(%v, %v) changed them to %v, %v", wasA, wasB, a, b)
	}
}

// wantBoth wants that many common entries, and of Prefix, either way round, what follows from it.
func wantBoth(t *testing.T, a, b []api.Entry, common int) {
	t.Helper()
	wantCommon(t, a, b, common)
	wantPrefix(t, a, b, common == len(a))
	wantPrefix(t, b, a, common == len(b))
}

// wantBest wants that place of Best, and the registers to stay as they are.
func wantBest(t *testing.T, l []api.Register, want int) {
	t.Helper()
	was := cloneAll(l)
	if got := Best(l); got != want {
		t.Fatalf("Best(%v) = %d, want %d", l, got, want)
	}
	for i := range l {
		if l[i].Promised != was[i].Promised || l[i].View != was[i].View || l[i].Commit != was[i].Commit || !isSame(l[i].Log, was[i].Log) {
			t.Fatalf("the register %v became %v", was[i], l[i])
		}
	}
}

// cloneAll are the registers, with logs of their own.
func cloneAll(l []api.Register) []api.Register {
	l = slices.Clone(l)
	for i := range l {
		l[i].Log = slices.Clone(l[i].Log)
	}
	return l
}

// wantRuns wants of Rising and Seals just these, and the log to stay as it is.
func wantRuns(t *testing.T, log []api.Entry, rising bool, seals ...int) {
	t.Helper()
	was := slices.Clone(log)
	if got := Rising(log); got != rising {
		t.Fatalf("Rising(%v) = %t, want %t", log, got, rising)
	}
	if got := Seals(log); !slices.Equal(got, seals) {
		t.Fatalf("Seals(%v) = %v, want %v", log, got, seals)
	}
	if !isSame(log, was) {
		t.Fatalf("the log %v became %v", was, log)
	}
}

// anyNumber is an int of any length.
func anyNumber(r *rand.Rand) int {
	return int(r.Uint64()) >> r.Intn(64)
}

// randomLog is a log of that many entries, of a few epochs and IDs; some of its numbers are any whatever.
func randomLog(r *rand.Rand, length int) []api.Entry {
	var log []api.Entry
	for range length {
		e := entry(r.Intn(4)-1, r.Intn(3))
		if r.Intn(8) == 0 {
			*fields(&e)[r.Intn(6)] = anyNumber(r)
		}
		log = append(log, e)
	}
	return log
}

// risingLog is a log of that many entries whose epochs rise from any number on, by none, by one or by many.
func risingLog(r *rand.Rand, length int) []api.Entry {
	epoch := r.Intn(2000) - 1000
	if r.Intn(8) == 0 {
		epoch = math.MinInt
	}
	var log []api.Entry
	for range length {
		switch r.Intn(4) {
		case 0:
			epoch++
		case 1:
			epoch += r.Intn(1000)
		}
		log = append(log, entry(epoch, r.Intn(100)))
	}
	return log
}

// cousin is a log that has a beginning of the given one in common with it, and mostly more.
func cousin(r *rand.Rand, log []api.Entry) []api.Entry {
	keep := r.Intn(len(log) + 1)
	l := slices.Clone(log[:keep])
	switch r.Intn(4) {
	case 0:
		return l
	case 1:
		l = slices.Clone(log)
		if len(l) > 0 {
			all := otherwise(l[keep%len(l)])
			l[keep%len(l)] = all[r.Intn(len(all))]
		}
		return l
	case 2:
		return append(slices.Clone(log), randomLog(r, r.Intn(4))...)
	}
	return append(l, randomLog(r, r.Intn(len(log)-keep+2))...)
}

// allOf are all lists of at most that many things, each of which is one of those.
func allOf[T any](most int, things ...T) [][]T {
	l := [][]T{nil}
	for from := 0; most > 0; most-- {
		to := len(l)
		for _, list := range l[from:to] {
			for _, x := range things {
				l = append(l, append(slices.Clone(list), x))
			}
		}
		from = to
	}
	return l
}
