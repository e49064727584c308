package register

import (
	"math"
	"math/rand"
	"slices"
	"testing"

	"archipelago/api"
)

// What the chapter names by number.
const (
	mostEpoch = 1048576
	mostLog   = 64
)

// ends are ints at which all things end.
var ends = []int{math.MinInt, math.MinInt + 1, math.MaxInt - 1, math.MaxInt}

// foreign is an entry that stands where nobody may look or write.
var foreign = api.Entry{Epoch: -77, Order: api.Order{ID: -77, Stream: -77, Expect: -77, Kind: -77, Arg: -77}}

// entry is one of that epoch, and of an order that is told by its ID.
func entry(epoch, id int) api.Entry {
	return api.Entry{Epoch: epoch, Order: api.Order{ID: id, Stream: 1, Expect: -1, Kind: 2, Arg: 5}}
}

// ofEpochs is a log of unlike orders, of those epochs.
func ofEpochs(epochs ...int) []api.Entry {
	var log []api.Entry
	for i, epoch := range epochs {
		log = append(log, entry(epoch, 100+i))
	}
	return log
}

// long is a log of that many unlike orders, all of one epoch.
func long(epoch, length int) []api.Entry {
	return ofEpochs(slices.Repeat([]int{epoch}, length)...)
}

// reg is a register.
func reg(promised, view, commit int, log ...api.Entry) api.Register {
	return api.Register{Promised: promised, View: view, Log: log, Commit: commit}
}

// plain is a register that may be, with something of all that a register has.
func plain() api.Register {
	return reg(9, 7, 2, ofEpochs(1, 3, 3, 7)...)
}

// current is plain, in the view that it has promised: so more may come behind its log.
func current() api.Register {
	return reg(7, 7, 2, ofEpochs(1, 3, 3, 7)...)
}

func promise(epoch int) api.Record {
	return api.Record{Kind: api.RecPromise, Epoch: epoch}
}

func view(epoch, from int, entries ...api.Entry) api.Record {
	return api.Record{Kind: api.RecView, Epoch: epoch, From: from, Entries: entries}
}

func commit(length int) api.Record {
	return api.Record{Kind: api.RecCommit, Length: length}
}

func base(promised, view, length int, entries ...api.Entry) api.Record {
	return api.Record{Kind: api.RecBase, Epoch: promised, View: view, Length: length, Entries: entries}
}

// ordersNumbers are all that an order has.
func ordersNumbers(o api.Order) [5]int {
	return [5]int{o.ID, o.Stream, o.Expect, o.Kind, o.Arg}
}

// fields are where an entry has its numbers.
func fields(e *api.Entry) []*int {
	return []*int{&e.Epoch, &e.Order.ID, &e.Order.Stream, &e.Order.Expect, &e.Order.Kind, &e.Order.Arg}
}

// isSameLog tells whether both logs are one, number by number.
func isSameLog(a, b []api.Entry) bool {
	if len(a) != len(b) {
		return false
	}
	for i := range a {
		if a[i].Epoch != b[i].Epoch || ordersNumbers(a[i].Order) != ordersNumbers(b[i].Order) {
			return false
		}
	}
	return true
}

// isSame tells whether both registers are one.
func isSame(a, b api.Register) bool {
	return a.Promised == b.Promised && a.View == b.View && a.Commit == b.Commit && isSameLog(a.Log, b.Log)
}

// isSameRecord tells whether both records are one.
func isSameRecord(a, b api.Record) bool {
	return a.Kind == b.Kind && a.Stream == b.Stream && a.Epoch == b.Epoch && a.View == b.View && a.From == b.From &&
		a.Length == b.Length && isSameLog(a.Entries, b.Entries) && slices.Equal(a.Feed, b.Feed)
}

// ordersByHand tells whether an order may be, by the words of layer 9.
func ordersByHand(o api.Order) bool {
	least := [5]int{1, 0, -1, 1, -1048576}
	most := [5]int{2147483647, 3, 2147483647, 4, 1048576}
	for i, n := range ordersNumbers(o) {
		if n < least[i] || n > most[i] {
			return false
		}
	}
	return true
}

// faults are all words of the chapter that the register does not keep to.
func faults(r api.Register) []string {
	var l []string
	want := func(ok bool, word string) {
		if !ok {
			l = append(l, word)
		}
	}
	want(0 <= r.View, "View from 0")
	want(r.View <= r.Promised, "View to Promised")
	want(r.Promised <= mostEpoch, "Promised")
	want(len(r.Log) <= mostLog, "entries")
	for i, e := range r.Log {
		want(ordersByHand(e.Order), "orders")
		want(e.Epoch >= 1, "epochs are 1 at least")
		want(i == 0 || r.Log[i-1].Epoch <= e.Epoch, "epochs do not fall")
		want(e.Epoch <= r.View, "epochs are at most View")
	}
	want(0 <= r.Commit, "Commit from 0")
	want(r.Commit <= len(r.Log), "Commit to as many entries as there are")
	slices.Sort(l)
	return slices.Compact(l)
}

// mayByHand tells whether a register may be.
func mayByHand(r api.Register) bool {
	return len(faults(r)) == 0
}

// applyByHand goes through the chapter's table, word by word.
func applyByHand(r api.Register, x api.Record) (api.Register, bool) {
	if !mayByHand(r) {
		return api.Register{}, false
	}
	next, when := r, []bool{false}
	switch x.Kind {
	case 1:
		when = []bool{x.Epoch > r.Promised, x.Epoch <= mostEpoch}
		next.Promised = x.Epoch
	case 2:
		next.Promised, next.View = x.Epoch, x.Epoch
		when = []bool{x.Epoch >= 1, x.Epoch >= r.Promised, x.Epoch <= mostEpoch}
		if x.Epoch > r.View {
			when = append(when, x.From == 0)
			next.Log = slices.Clone(x.Entries)
		} else {
			when = append(when, x.From == len(r.Log))
			next.Log = slices.Concat(r.Log, x.Entries)
		}
		when = append(when, mayByHand(api.Register{Promised: mostEpoch, View: x.Epoch, Log: next.Log}))
		for i := range r.Commit {
			when = append(when, i < len(next.Log) && next.Log[i] == r.Log[i])
		}
	case 3:
		when = []bool{x.Length > r.Commit, x.Length <= len(r.Log)}
		next.Commit = x.Length
	case 4:
		next = api.Register{Promised: x.Epoch, View: x.View, Log: slices.Clone(x.Entries), Commit: x.Length}
		when = []bool{r.Promised == 0, mayByHand(next)}
	}
	if slices.Contains(when, false) {
		return api.Register{}, false
	}
	return next, true
}

// room is a log amid foreign entries, ahead of it and behind it, in one piece of memory.
type room struct {
	all, was []api.Entry
	log      []api.Entry
}

// inRoom lays a log so.
func inRoom(log []api.Entry) room {
	all := slices.Repeat([]api.Entry{foreign}, len(log)+9)
	m := room{all: all, log: all[2 : 2+len(log)]}
	copy(m.log, log)
	m.was = slices.Clone(all)
	return m
}

// wantUntouched wants all of the room to be as it was laid.
func (m room) wantUntouched(t *testing.T, what string) {
	t.Helper()
	if !isSameLog(m.all, m.was) {
		t.Fatalf("%s changed the memory %v to %v", what, m.was, m.all)
	}
}

// writeAll writes into all that a log has and has room for, and lets it grow.
func writeAll(log []api.Entry) {
	for i := range log[:cap(log)] {
		log[:cap(log)][i] = api.Entry{Epoch: -88}
	}
	_ = append(log, api.Entry{Epoch: -99})
}

// wantCheck wants that word of Check, and the register to stay as it is.
func wantCheck(t *testing.T, r api.Register, want bool) {
	t.Helper()
	m := inRoom(r.Log)
	for _, log := range [][]api.Entry{r.Log, m.log} {
		if got := Check(api.Register{Promised: r.Promised, View: r.View, Log: log, Commit: r.Commit}); got != want {
			t.Fatalf("Check(%v) = %t, want %t", r, got, want)
		}
	}
	m.wantUntouched(t, "Check")
}

// wantApply wants just that of Apply, and its word of May, and all that is handed in to stay as it is, also when what was
// answered is written into, or grows.
func wantApply(t *testing.T, r api.Register, x api.Record, want api.Register, ok bool) {
	t.Helper()
	if got, gotOK := Apply(r, x); gotOK != ok || !isSame(got, want) {
		t.Fatalf("Apply(%v, %v) = %v, %t, want %v, %t", r, x, got, gotOK, want, ok)
	}
	if got := May(r, x); got != ok {
		t.Fatalf("May(%v, %v) = %t, want %t", r, x, got, ok)
	}
	old, more, feed := inRoom(r.Log), inRoom(x.Entries), slices.Clone(x.Feed)
	r.Log, x.Entries = old.log, more.log
	got, gotOK := Apply(r, x)
	if gotOK != ok || !isSame(got, want) {
		t.Fatalf("Apply(%v, %v) = %v, %t, want %v, %t", r, x, got, gotOK, want, ok)
	}
	if !slices.Equal(feed, x.Feed) {
		t.Fatalf("Apply changed the feed %v to %v", feed, x.Feed)
	}
	old.wantUntouched(t, "Apply, of the register,")
	more.wantUntouched(t, "Apply, of the record,")
	writeAll(got.Log)
	old.wantUntouched(t, "writing into Apply's answer, of the register,")
	more.wantUntouched(t, "writing into Apply's answer, of the record,")
	got, _ = Apply(r, x)
	other, _ := Apply(r, x)
	writeAll(other.Log)
	writeAll(r.Log)
	writeAll(x.Entries)
	if !isSame(got, want) {
		t.Fatalf("Apply's answer %v became %v", want, got)
	}
}

// wantBehind wants that register behind the record.
func wantBehind(t *testing.T, r api.Register, x api.Record, want api.Register) {
	t.Helper()
	wantApply(t, r, x, want, true)
}

// wantNone wants the record not to come behind the register.
func wantNone(t *testing.T, r api.Register, x api.Record) {
	t.Helper()
	wantApply(t, r, x, api.Register{}, false)
}

// wantByHand wants what the chapter's words lead to, and tells it.
func wantByHand(t *testing.T, r api.Register, x api.Record) (api.Register, bool) {
	t.Helper()
	want, ok := applyByHand(r, x)
	wantApply(t, r, x, want, ok)
	return want, ok
}

// badOrders are orders that may not be, each for one field alone.
func badOrders() []api.Order {
	var l []api.Order
	for i, none := range [][]int{{0, -1, 1 << 31, 1 << 32}, {-1, 4, 1 << 32}, {-2, 1 << 31}, {0, 5, -1, 1<<32 + 1}, {-1<<20 - 1, 1<<20 + 1}} {
		for _, n := range append(none, ends...) {
			e := entry(1, 7)
			*fields(&e)[i+1] = n
			l = append(l, e.Order)
		}
	}
	return l
}

// otherOrders are orders that may be, and are unlike the entry's in one field alone.
func otherOrders(e api.Entry) []api.Entry {
	var l []api.Entry
	for i, some := range [][]int{{1, 99, 1<<31 - 1}, {0, 2, 3}, {0, 1, 1<<31 - 1}, {1, 3, 4}, {-1 << 20, -5, 0, 4, 6, 1 << 20}} {
		for _, n := range some {
			x := e
			*fields(&x)[i+1] = n
			if x != e {
				l = append(l, x)
			}
		}
	}
	return l
}

// someRegisters are registers that may be, of all ways.
func someRegisters() []api.Register {
	return []api.Register{
		{}, reg(1, 0, 0), reg(4, 0, 0), reg(4, 4, 0), plain(), current(), reg(9, 7, 0, ofEpochs(1, 3, 3, 7)...), reg(7, 7, 4, ofEpochs(1, 3, 3, 7)...),
		reg(mostEpoch, 0, 0), reg(mostEpoch, mostEpoch, 1, entry(1, 1), entry(mostEpoch, 2)), reg(5, 2, 33, long(2, mostLog)...), reg(2, 2, 64, long(1, mostLog)...),
	}
}

// badRegisters are registers that may not be, each for a word of its own.
func badRegisters() []api.Register {
	good := plain()
	unlike := func(change func(r *api.Register)) api.Register {
		r := Clone(good)
		change(&r)
		return r
	}
	return []api.Register{
		reg(-1, -1, 0), reg(0, -1, 0), reg(0, 1, 0), reg(mostEpoch+1, 0, 0), reg(0, 0, 0, entry(1, 1)), reg(0, 0, 0, entry(0, 1)), reg(0, 0, 1), reg(0, 0, -1), reg(ends[0], ends[0], ends[0]), reg(ends[3], ends[3], ends[3]),
		unlike(func(r *api.Register) { r.View = 10 }),
		unlike(func(r *api.Register) { r.View = 6 }),
		unlike(func(r *api.Register) { r.Promised = mostEpoch + 1 }),
		unlike(func(r *api.Register) { r.Log[0].Epoch = 0 }),
		unlike(func(r *api.Register) { r.Log[1].Epoch = 4 }),
		unlike(func(r *api.Register) { r.Log[3].Epoch = 8 }),
		unlike(func(r *api.Register) { r.Log[2].Order.ID = 0 }),
		unlike(func(r *api.Register) { r.Log = append(r.Log, long(7, 61)...) }),
		unlike(func(r *api.Register) { r.Log = append(r.Log, long(7, 500)...) }),
		unlike(func(r *api.Register) { r.Commit = -1 }),
		unlike(func(r *api.Register) { r.Commit = 5 }),
	}
}

// anyNumber is an int of any length.
func anyNumber(r *rand.Rand) int {
	return int(r.Uint64()) >> r.Intn(64)
}

// near is that number, or one that is not far from it; seldom any other.
func near(r *rand.Rand, n int) int {
	switch r.Intn(12) {
	case 0:
		return n - 1
	case 1:
		return n + 1
	case 2:
		return n + r.Intn(5)
	case 3:
		return anyNumber(r)
	}
	return n
}

// randomLog is a log of that many entries whose epochs rise up to most; seldom one of its numbers is off.
func randomLog(r *rand.Rand, most, length int) []api.Entry {
	var log []api.Entry
	if most < 1 || most > mostEpoch {
		most = 1
	}
	epoch := 1 + r.Intn(most)
	for range length {
		log = append(log, entry(epoch, 1+r.Intn(9)))
		epoch += r.Intn(most - epoch + 1)
	}
	if length > 0 && r.Intn(16) == 0 {
		at := fields(&log[r.Intn(length)])[r.Intn(6)]
		*at = near(r, *at)
	}
	return log
}

// randomLength is mostly small, and seldom beyond what a log may have.
func randomLength(r *rand.Rand) int {
	if r.Intn(12) == 0 {
		return r.Intn(80)
	}
	return r.Intn(5)
}

// randomRecord is one that mostly may come behind the register, and is off by little in many ways.
func randomRecord(r *rand.Rand, g api.Register) api.Record {
	x := api.Record{Kind: 1 + r.Intn(4), Stream: r.Intn(6) - 1}
	if r.Intn(4) == 0 {
		x = api.Record{Kind: near(r, r.Intn(7)), Stream: anyNumber(r), Epoch: anyNumber(r), View: anyNumber(r), From: r.Intn(5), Length: r.Intn(5), Feed: []api.Spot{{Stream: 1, Index: 2}}}
	}
	switch x.Kind {
	case api.RecPromise:
		x.Epoch = near(r, g.Promised+1)
	case api.RecCommit:
		x.Length = near(r, g.Commit+1)
	case api.RecBase:
		x.Epoch = near(r, r.Intn(9))
		x.View = near(r, x.Epoch)
		x.Entries = randomLog(r, x.View, randomLength(r))
		x.Length = near(r, len(x.Entries))
	case api.RecView:
		x.Epoch = near(r, g.Promised+r.Intn(2))
		x.From, x.Entries = near(r, len(g.Log)), long(x.Epoch, r.Intn(3))
		if x.Epoch > g.View {
			keep := min(len(g.Log), max(0, near(r, g.Commit+r.Intn(2))))
			x.From = near(r, 0)
			x.Entries = append(slices.Clone(g.Log[:keep]), randomTail(r, g, x.Epoch, keep)...)
		}
	}
	return x
}

// randomTail is entries that mostly may come behind the keep first ones of the register's log.
func randomTail(r *rand.Rand, g api.Register, epoch, keep int) []api.Entry {
	l := randomLog(r, epoch, randomLength(r))
	for i := range l {
		if keep > 0 && l[i].Epoch < g.Log[keep-1].Epoch && r.Intn(40) > 0 {
			l[i].Epoch = g.Log[keep-1].Epoch
		}
	}
	return l
}

// chain lays random records behind the empty register, and hands each step to a function that tells what is behind it.
func chain(r *rand.Rand, length int, step func(g api.Register, x api.Record) (api.Register, bool)) {
	g := api.Register{}
	for range length {
		if next, ok := step(g, randomRecord(r, g)); ok {
			g = next
		}
	}
}
