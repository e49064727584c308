package register

import (
	"slices"
	"testing"

	"archipelago/api"
)

// allRecords are a record of each kind that mostly may come behind the register, some that are of no kind, and a zero one.
func allRecords(r api.Register) []api.Record {
	l := []api.Record{
		promise(r.Promised + 1), commit(r.Commit + 1), commit(len(r.Log)), base(r.Promised, r.View, r.Commit, r.Log...), base(0, 0, 0), base(5, 4, 1, ofEpochs(1, 4)...),
		view(r.Promised, len(r.Log)), view(r.Promised, len(r.Log), entry(r.Promised, 8)), view(r.Promised+1, 0, r.Log...), view(mostEpoch, 0, r.Log...), view(1, 0, entry(1, 1)),
	}
	for _, kind := range append([]int{0, -1, 5, 6, 7, 8, 1 << 32, 1<<32 + 1}, ends...) {
		x := base(5, 4, 1, ofEpochs(1, 4)...)
		x.Kind = kind
		l = append(l, x, api.Record{Kind: kind, Epoch: r.Promised + 1, Length: len(r.Log)}, api.Record{Kind: kind})
	}
	return l
}

// P15.1: the chapter's examples.
func TestExamples(t *testing.T) {
	empty := api.Register{}
	wantBehind(t, empty, promise(4), reg(4, 0, 0))
	wantNone(t, empty, promise(0))
	one, more, another := entry(4, 1), entry(4, 2), entry(4, 3)
	wantBehind(t, reg(4, 0, 0), view(4, 0, one), reg(4, 4, 0, one))
	wantNone(t, reg(4, 0, 0), view(3, 0))
	wantBehind(t, reg(4, 4, 0, one), view(4, 1, more), reg(4, 4, 0, one, more))
	wantNone(t, reg(4, 4, 0, one), view(4, 0))
	wantBehind(t, reg(4, 4, 1, one, more), view(7, 0, one), reg(7, 7, 1, one))
	wantNone(t, reg(4, 4, 1, one, more), view(7, 0, another))
	wantNone(t, empty, commit(1))
}

// P15.1: all kinds of records behind registers of all ways, by the chapter's words.
func TestAllKindsBehindAllWays(t *testing.T) {
	for _, r := range someRegisters() {
		for _, x := range allRecords(r) {
			wantByHand(t, r, x)
		}
	}
}

// P15.1: a promise at what was promised, above it, at MaxEpoch, above it, below 0; the rest of the register stays.
func TestPromise(t *testing.T) {
	for _, r := range someRegisters() {
		for _, epoch := range append([]int{-1, 0, 1, r.View, r.Promised - 1, r.Promised, r.Promised + 1, r.Promised + 2, mostEpoch - 1, mostEpoch, mostEpoch + 1, 1 << 32}, ends...) {
			if epoch > r.Promised && epoch <= mostEpoch {
				wantBehind(t, r, promise(epoch), reg(epoch, r.View, r.Commit, r.Log...))
			} else {
				wantNone(t, r, promise(epoch))
			}
		}
	}
}

// P15.1: a view's Epoch of 0, below what was promised, at it, above it, at MaxEpoch and above it.
func TestEpochOfView(t *testing.T) {
	wantNone(t, api.Register{}, view(0, 0))
	wantBehind(t, api.Register{}, view(1, 0), reg(1, 1, 0))
	for _, r := range someRegisters() {
		for _, epoch := range append([]int{-1, 0, 1, r.View - 1, r.View, r.View + 1, r.Promised - 1, r.Promised, r.Promised + 1, r.Promised + 5, mostEpoch, mostEpoch + 1, 1<<32 + 7}, ends...) {
			ok := epoch >= 1 && epoch >= r.Promised && epoch <= mostEpoch
			want := reg(epoch, epoch, r.Commit, r.Log...)
			if epoch > r.View {
				wantApply(t, r, view(epoch, 0, r.Log...), orNone(want, ok), ok)
			} else {
				wantApply(t, r, view(epoch, len(r.Log)), orNone(want, ok), ok)
			}
		}
	}
}

// orNone is the register, if it is to be; else the empty one.
func orNone(r api.Register, ok bool) api.Register {
	if !ok {
		return api.Register{}
	}
	return r
}

// P15.1: in the view that the register has, entries come from as many on as the log has, from nowhere else.
func TestFromInTheSameView(t *testing.T) {
	for length := range 6 {
		for n := range length + 1 {
			r := reg(4, 4, n, long(3, length)...)
			for _, from := range append([]int{-1, 0, 1, n, length - 1, length, length + 1, length + 2, 1<<32 + length}, ends...) {
				for _, more := range [][]api.Entry{nil, {}, ofEpochs(4), ofEpochs(3, 3, 4)} {
					want := reg(4, 4, n, slices.Concat(r.Log, more)...)
					wantApply(t, r, view(4, from, more...), orNone(want, from == length), from == length)
				}
			}
		}
	}
}

// P15.1: in a greater view, whether it was promised ahead or not, entries come from 0 on, from nowhere else: all of the
// log that was is lost, but what the new one has of it.
func TestFromInAGreaterView(t *testing.T) {
	for length := range 6 {
		for _, promised := range []int{3, 4, 5} {
			r := reg(promised, 3, 0, long(3, length)...)
			for _, from := range append([]int{-1, 0, 1, length - 1, length, length + 1, 1 << 32}, ends...) {
				for _, log := range [][]api.Entry{nil, {}, ofEpochs(5), ofEpochs(1, 2, 3, 4, 5), r.Log} {
					wantApply(t, r, view(5, from, log...), orNone(reg(5, 5, 0, log...), from == 0), from == 0)
				}
			}
		}
	}
}

// P15.1: no entries, in the view that is: nothing is changed; in a greater one: an empty log, if nothing is committed.
func TestNoEntries(t *testing.T) {
	for _, r := range someRegisters() {
		if r.View == r.Promised && r.View > 0 {
			wantBehind(t, r, view(r.View, len(r.Log)), r)
		}
		for _, epoch := range []int{r.Promised, r.Promised + 1} {
			if epoch > r.View && epoch <= mostEpoch {
				wantApply(t, r, view(epoch, 0), orNone(reg(epoch, epoch, 0), r.Commit == 0), r.Commit == 0)
			}
		}
	}
}

// P15.1: entries up to MaxLog in all, and one more; and hundreds.
func TestLengthsOfView(t *testing.T) {
	all := long(4, 700)
	for _, length := range []int{0, 1, 2, 31, 32, 33, 62, 63, mostLog, 65, 66, 128, 300, 700} {
		ok := length <= mostLog
		wantApply(t, reg(4, 2, 0), view(4, 0, all[:length]...), orNone(reg(4, 4, 0, all[:length]...), ok), ok)
		for _, from := range []int{0, 1, 31, 32, 33, 63, mostLog} {
			if from > length {
				continue
			}
			r := reg(4, 4, from, all[:from]...)
			wantApply(t, r, view(4, from, all[from:length]...), orNone(reg(4, 4, from, all[:length]...), ok), ok)
			wantApply(t, r, view(5, 0, all[:length]...), orNone(reg(5, 5, from, all[:length]...), ok), ok)
		}
	}
}

// P15.1: a new log has all that is committed, at its beginning: if it lacks any of that, it does not come.
func TestCommittedEntriesThatAreLacking(t *testing.T) {
	log := ofEpochs(1, 3, 5, 7)
	for n := range 5 {
		r := reg(9, 8, n, log...)
		for keep := range 5 {
			wantApply(t, r, view(9, 0, log[:keep]...), orNone(reg(9, 9, n, log[:keep]...), keep >= n), keep >= n)
			other := append(slices.Clone(log[:keep]), entry(7, 900), entry(9, 901))
			wantApply(t, r, view(9, 0, other...), orNone(reg(9, 9, n, other...), keep >= n), keep >= n)
		}
		for at := range n {
			wantNone(t, r, view(9, 0, slices.Delete(slices.Clone(log), at, at+1)...))
			wantNone(t, r, view(9, 0, slices.Insert(slices.Clone(log), at, entry(log[at].Epoch, 900))...))
		}
	}
}

// P15.1: another entry in the place of one that is committed, unlike in one field alone, does not come; in the place of
// one that is not, it does.
func TestOtherEntriesInThePlaceOfCommittedOnes(t *testing.T) {
	log := ofEpochs(2, 4, 6, 8)
	for at := range log {
		others := otherOrders(log[at])
		for _, epoch := range []int{log[at].Epoch - 1, log[at].Epoch + 1} {
			others = append(others, api.Entry{Epoch: epoch, Order: log[at].Order})
		}
		for _, other := range others {
			next := slices.Clone(log)
			next[at] = other
			for n := range 5 {
				ok := n <= at
				wantApply(t, reg(9, 8, n, log...), view(10, 0, next...), orNone(reg(10, 10, n, next...), ok), ok)
			}
		}
	}
}

// P15.1: the committed entries in another order, or one of them twice, do not come.
func TestCommittedEntriesInAnotherOrder(t *testing.T) {
	log := long(2, 3)
	wantNone(t, reg(2, 2, 3, log...), view(3, 0, log[1], log[0], log[2]))
	wantNone(t, reg(2, 2, 3, log...), view(3, 0, log[0], log[2], log[1]))
	wantNone(t, reg(2, 2, 3, log...), view(3, 0, log[0], log[0], log[1], log[2]))
	wantBehind(t, reg(2, 2, 1, log...), view(3, 0, log[0], log[2], log[1]), reg(3, 3, 1, log[0], log[2], log[1]))
	wantBehind(t, reg(2, 2, 3, log...), view(3, 0, log[0], log[1], log[2], log[0]), reg(3, 3, 3, log[0], log[1], log[2], log[0]))
}

// P15.1: a new log whose epochs fall, among its entries or where they come behind the old ones, or are 0, or above Epoch.
func TestEpochsOfEntries(t *testing.T) {
	r := reg(6, 6, 1, ofEpochs(2, 4)...)
	for _, x := range []struct {
		epochs []int
		ok     bool
	}{
		{[]int{4}, true}, {[]int{5}, true}, {[]int{6}, true}, {[]int{4, 4, 5, 6, 6}, true},
		{[]int{3}, false}, {[]int{0}, false}, {[]int{-1}, false}, {[]int{7}, false}, {[]int{3, 6}, false}, {[]int{5, 4}, false}, {[]int{4, 6, 5, 6}, false}, {[]int{4, 5, 7}, false}, {[]int{4, 7, 6}, false}, {[]int{ends[0]}, false}, {[]int{ends[3]}, false},
	} {
		more := ofEpochs(x.epochs...)
		log := append(slices.Clone(r.Log), more...)
		wantApply(t, r, view(6, 2, more...), orNone(reg(6, 6, 1, log...), x.ok), x.ok)
		wantApply(t, reg(6, 5, 1, r.Log...), view(6, 0, log...), orNone(reg(6, 6, 1, log...), x.ok), x.ok)
	}
	wantNone(t, reg(6, 5, 0, r.Log...), view(6, 0, ofEpochs(0, 4)...))
	wantNone(t, reg(6, 5, 0, r.Log...), view(6, 0, ofEpochs(4, 2)...))
	wantNone(t, reg(6, 5, 0, r.Log...), view(6, 0, ofEpochs(2, 7)...))
	wantBehind(t, reg(6, 5, 0, r.Log...), view(7, 0, ofEpochs(2, 7)...), reg(7, 7, 0, ofEpochs(2, 7)...))
}

// P15.1: entries with an order that may not be: first, last and in the middle.
func TestOrdersOfEntries(t *testing.T) {
	for _, o := range badOrders() {
		for at := range 3 {
			more := long(7, 3)
			more[at].Order = o
			wantNone(t, current(), view(7, 4, more...))
			wantNone(t, api.Register{}, view(7, 0, more...))
			wantNone(t, api.Register{}, base(7, 7, 0, more...))
		}
	}
	log := append(otherOrders(entry(7, 5)), entry(7, 5), entry(7, 5))
	wantBehind(t, api.Register{}, view(7, 0, log...), reg(7, 7, 0, log...))
	wantBehind(t, current(), view(7, 4, log...), reg(7, 7, 2, append(current().Log, log...)...))
}

// P15.1: a commit's Length at what is committed, above it, of as many entries as there are, and of one more.
func TestCommit(t *testing.T) {
	for _, length := range []int{0, 1, 2, 5, mostLog} {
		for _, n := range []int{0, 1, length / 2, length - 1, length} {
			if n < 0 || n > length {
				continue
			}
			r := reg(7, 5, n, long(4, length)...)
			for _, to := range append([]int{-1, 0, 1, n - 1, n, n + 1, length - 1, length, length + 1, mostLog, 1<<32 + length}, ends...) {
				ok := to > n && to <= length
				wantApply(t, r, commit(to), orNone(reg(7, 5, to, r.Log...), ok), ok)
			}
		}
	}
}

// P15.1: a base behind the empty register, whether its log is nil or empty.
func TestBaseBehindTheEmptyRegister(t *testing.T) {
	for _, r := range someRegisters() {
		wantBehind(t, api.Register{}, base(r.Promised, r.View, r.Commit, r.Log...), r)
		wantBehind(t, api.Register{Log: ofEpochs(3)[:0]}, base(r.Promised, r.View, r.Commit, r.Log...), r)
	}
}

// P15.1: a base comes behind no register that has promised, were it the same one.
func TestBaseBehindAPromise(t *testing.T) {
	for _, r := range someRegisters() {
		if r.Promised == 0 {
			continue
		}
		wantNone(t, r, base(r.Promised, r.View, r.Commit, r.Log...))
		wantNone(t, r, base(0, 0, 0))
		wantNone(t, r, base(mostEpoch, 7, 2, plain().Log...))
	}
	wantNone(t, reg(1, 0, 0), base(4, 0, 0))
}

// P15.1: a base that says a register that may not be, and each of its numbers and those of its entries by itself.
func TestBaseOfRegistersThatMayNotBe(t *testing.T) {
	for _, r := range badRegisters() {
		wantNone(t, api.Register{}, base(r.Promised, r.View, r.Commit, r.Log...))
	}
	for _, r := range someRegisters() {
		x := base(r.Promised, r.View, r.Commit, slices.Clone(r.Log)...)
		at := []*int{&x.Epoch, &x.View, &x.Length}
		for i := range x.Entries {
			at = append(at, fields(&x.Entries[i])...)
		}
		for _, n := range at {
			was := *n
			for _, other := range append([]int{-1, 0, 1, was - 1, was + 1, mostLog + 1, mostEpoch, mostEpoch + 1}, ends...) {
				*n = other
				wantByHand(t, api.Register{}, x)
			}
			*n = was
		}
	}
}

// P15.1: a RecFeed, and kinds that are none, come behind no register, whatever they hold.
func TestOtherKinds(t *testing.T) {
	for _, r := range someRegisters() {
		for _, kind := range append([]int{0, -1, -2, 5, 6, 7, 100, 1<<32 + 1, 1<<32 + 2, 1<<32 + 3, 1<<32 + 4}, ends...) {
			for _, x := range []api.Record{{}, promise(r.Promised + 1), view(r.Promised+1, 0, r.Log...), view(r.Promised, len(r.Log)), commit(r.Commit + 1), base(9, 9, 1, ofEpochs(3)...)} {
				x.Kind = kind
				wantNone(t, r, x)
				x.Feed = []api.Spot{{Stream: 0, Index: 0}}
				wantNone(t, r, x)
			}
		}
	}
}

// P15.1: what a kind does not speak of makes no difference, whatever it holds.
func TestWhatAKindDoesNotSpeakOf(t *testing.T) {
	notSpokenOf := map[int]func(x *api.Record) []*int{
		api.RecPromise: func(x *api.Record) []*int { return []*int{&x.Stream, &x.View, &x.From, &x.Length} },
		api.RecView:    func(x *api.Record) []*int { return []*int{&x.Stream, &x.View, &x.Length} },
		api.RecCommit:  func(x *api.Record) []*int { return []*int{&x.Stream, &x.Epoch, &x.View, &x.From} },
		api.RecBase:    func(x *api.Record) []*int { return []*int{&x.Stream, &x.From} },
	}
	for _, r := range someRegisters() {
		for _, x := range allRecords(r) {
			want, ok := applyByHand(r, x)
			l := notSpokenOf[x.Kind]
			if l == nil {
				continue
			}
			for _, n := range append([]int{-1, 0, 1, 3, 4, 64, mostEpoch + 1}, ends...) {
				y := x
				for _, at := range l(&y) {
					was := *at
					*at = n
					wantApply(t, r, y, want, ok)
					*at = was
				}
				for _, at := range l(&y) {
					*at = n
				}
				y.Feed = []api.Spot{{Stream: n, Index: n}, {Stream: n, Index: n}}
				if x.Kind == api.RecPromise || x.Kind == api.RecCommit {
					y.Entries = slices.Repeat([]api.Entry{foreign}, 300)
				}
				wantApply(t, r, y, want, ok)
			}
		}
	}
}

// P15.1: the record's Stream is not looked at, nor whether the entries' orders are of it, or of one stream.
func TestStreamsOfEntries(t *testing.T) {
	log := long(7, 4)
	for i := range log {
		log[i].Order.Stream = i
	}
	for _, stream := range append([]int{-1, 0, 1, 2, 3, 4}, ends...) {
		x := view(7, 4, log...)
		x.Stream = stream
		wantBehind(t, current(), x, reg(7, 7, 2, append(current().Log, log...)...))
		x = base(9, 7, 4, log...)
		x.Stream = stream
		wantBehind(t, api.Register{}, x, reg(9, 7, 4, log...))
	}
}

// P15.1: behind a register that may not be no record comes, of whatever kind: the empty one, and false.
func TestRegistersThatMayNotBe(t *testing.T) {
	for _, r := range badRegisters() {
		l := append(allRecords(r), allRecords(plain())...)
		for _, x := range append(l, view(mostEpoch, 0), view(mostEpoch, 0, plain().Log...), promise(mostEpoch), commit(1), commit(3), base(9, 7, 2, plain().Log...)) {
			wantNone(t, r, x)
		}
	}
}

// P15.1: the least and the greatest int in each number of a record, with entries and without, behind registers of all ways.
func TestRecordsAtTheEnds(t *testing.T) {
	l := append([]int{-1, 0, 1}, ends...)
	for _, r := range []api.Register{{}, current(), plain(), reg(ends[0], ends[0], ends[0]), reg(ends[3], ends[3], ends[3], ofEpochs(ends[0], ends[3])...)} {
		for kind := range 7 {
			for _, a := range l {
				for _, b := range l {
					wantByHand(t, r, api.Record{Kind: kind, Stream: a, Epoch: b, View: a, From: a, Length: b})
					wantByHand(t, r, api.Record{Kind: kind, Stream: b, Epoch: a, View: a, From: b, Length: b, Entries: []api.Entry{foreign, {Epoch: a}}})
				}
			}
		}
	}
}

// P15.1: long logs and entries, of thousands, behind registers that may be and that may not.
func TestHundredsOfEntries(t *testing.T) {
	for _, length := range []int{65, 128, 500, 5000} {
		wantNone(t, reg(3, 3, 0, long(3, length)...), view(3, length))
		wantNone(t, reg(3, 3, 0, long(3, length)...), view(4, 0))
		wantNone(t, reg(3, 3, 0, long(3, length)...), promise(4))
		wantNone(t, reg(3, 3, 0, long(3, length)...), commit(1))
		wantNone(t, reg(3, 3, 0, long(3, 3)...), view(3, 3, long(3, length)...))
		wantNone(t, reg(3, 3, 0, long(3, 3)...), view(4, 0, long(3, length)...))
		wantNone(t, api.Register{}, base(3, 3, 0, long(3, length)...))
	}
}
