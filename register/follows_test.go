package register

import (
	"math/rand"
	"slices"
	"testing"

	"archipelago/api"
)

// wantFollows wants of a record that came behind a register all that is promised of it.
func wantFollows(t *testing.T, r api.Register, x api.Record, next api.Register) {
	t.Helper()
	if !Check(next) || !mayByHand(next) {
		t.Fatalf("behind %v, by %v, comes %v, which may not be: %v", r, x, next, faults(next))
	}
	if next.Promised < r.Promised || next.View < r.View || next.Commit < r.Commit {
		t.Fatalf("%v falls to %v, by %v", r, next, x)
	}
	if !isSameLog(r.Log[:r.Commit], next.Log[:min(r.Commit, len(next.Log))]) {
		t.Fatalf("what %v has committed does not stay in %v, by %v", r, next, x)
	}
	if next.View == r.View && !isSameLog(r.Log, next.Log[:min(len(r.Log), len(next.Log))]) {
		t.Fatalf("the log of %v does not grow to that of %v, by %v", r, next, x)
	}
}

// wantBaseLeads wants Base of the register to lead the empty one to it.
func wantBaseLeads(t *testing.T, r api.Register) {
	t.Helper()
	for stream := range 4 {
		x := Base(stream, r)
		got, ok := Apply(api.Register{}, x)
		if !ok || !isSame(got, r) {
			t.Fatalf("Base of %v leads to %v, %t", r, got, ok)
		}
		wantBehind(t, api.Register{}, x, r)
	}
}

// smallRegisters are all registers of few epochs and entries that may be.
func smallRegisters() []api.Register {
	var l []api.Register
	for promised := range 3 {
		for v := range promised + 1 {
			for _, log := range smallLogs() {
				for n := range len(log) + 1 {
					if r := reg(promised, v, n, log...); mayByHand(r) {
						l = append(l, r)
					}
				}
			}
		}
	}
	return l
}

// smallLogs are all logs of at most two entries of few epochs and orders, whether they may be or not.
func smallLogs() [][]api.Entry {
	l := [][]api.Entry{nil}
	some := []api.Entry{entry(1, 1), entry(1, 2), entry(2, 1), entry(3, 1), entry(2, 0)}
	for _, a := range some {
		l = append(l, []api.Entry{a})
		for _, b := range some {
			l = append(l, []api.Entry{a, b})
		}
	}
	return l
}

// P15.1, P15.3: all small records behind all small registers, by the chapter's words.
func TestAllSmallRecords(t *testing.T) {
	came := map[int]int{}
	for _, r := range smallRegisters() {
		try := func(x api.Record) {
			if next, ok := wantByHand(t, r, x); ok {
				came[x.Kind]++
				wantFollows(t, r, x, next)
			}
		}
		for n := -1; n < 5; n++ {
			try(promise(n))
			try(commit(n))
			for _, log := range smallLogs() {
				for from := -1; from < 4; from++ {
					try(view(n, from, log...))
				}
				for v := range 3 {
					try(base(n, v, len(log), log...))
				}
			}
		}
	}
	for kind := 1; kind <= 4; kind++ {
		if came[kind] < 20 {
			t.Errorf("only %d records of the kind %d came", came[kind], kind)
		}
	}
}

// P15.1, P15.3: random records behind one another, by the chapter's words.
func TestRandomRecordsBehindOneAnother(t *testing.T) {
	r := rand.New(rand.NewSource(153))
	came, failed := map[int]int{}, map[int]int{}
	for range 600 {
		chain(r, 60, func(g api.Register, x api.Record) (api.Register, bool) {
			next, ok := wantByHand(t, g, x)
			if ok {
				came[x.Kind]++
			} else {
				failed[x.Kind]++
			}
			return next, ok
		})
	}
	for kind := 1; kind <= 4; kind++ {
		if came[kind] < 100 || failed[kind] < 300 {
			t.Errorf("of the kind %d only %d records came, and %d did not", kind, came[kind], failed[kind])
		}
	}
}

// P15.3: behind records a register may be; Promised, View and Commit never fall; what is committed stays, entry by entry,
// to the end of all records; in one view the log only grows.
func TestWhatFollows(t *testing.T) {
	r := rand.New(rand.NewSource(154))
	most := 0
	for range 600 {
		var committed []api.Entry
		chain(r, 80, func(g api.Register, x api.Record) (api.Register, bool) {
			next, ok := Apply(g, x)
			if !ok {
				if !isSame(next, api.Register{}) {
					t.Fatalf("%v beside false", next)
				}
				return next, false
			}
			wantFollows(t, g, x, next)
			if !isSameLog(next.Log[:len(committed)], committed) {
				t.Fatalf("of %v, which was committed, is left %v", committed, next)
			}
			committed = slices.Clone(next.Log[:next.Commit])
			most = max(most, len(committed))
			return next, true
		})
	}
	if most < 5 {
		t.Errorf("no more than %d entries were committed", most)
	}
}

// P15.3: Base of a register that may be leads the empty one to it: of all ways, all small ones, and behind random records.
func TestBaseLeadsToTheRegister(t *testing.T) {
	for _, r := range append(someRegisters(), smallRegisters()...) {
		wantBaseLeads(t, r)
	}
	r := rand.New(rand.NewSource(155))
	for range 100 {
		chain(r, 60, func(g api.Register, x api.Record) (api.Register, bool) {
			next, ok := Apply(g, x)
			if ok {
				wantBaseLeads(t, next)
			}
			return next, ok
		})
	}
}

// P15.3: Base of a register that may not be leads nowhere.
func TestBaseOfNoRegisterLeadsNowhere(t *testing.T) {
	for _, r := range badRegisters() {
		wantNone(t, api.Register{}, Base(1, r))
	}
}

// P15.1, P15.3: the same record a second time: a promise, a commit, and entries do not come again; a view without entries
// changes nothing; nor does a base of the empty register.
func TestASecondTime(t *testing.T) {
	twice := func(r api.Register, x api.Record) {
		t.Helper()
		next, ok := Apply(r, x)
		if !ok {
			t.Fatalf("%v does not come behind %v", x, r)
		}
		stays := x.Kind == api.RecView && len(x.Entries) == 0 || x.Kind == api.RecBase && x.Epoch == 0
		if stays {
			wantBehind(t, next, x, next)
		} else {
			wantNone(t, next, x)
		}
	}
	for _, r := range []api.Register{{}, plain(), current(), reg(4, 0, 0), reg(5, 2, 33, long(2, 63)...)} {
		next := r.Promised + 1
		twice(r, promise(next))
		twice(r, view(next, 0, append(slices.Clone(r.Log), entry(next, 1))...))
		if r.View == r.Promised && r.View > 0 {
			twice(r, view(r.View, len(r.Log)))
			twice(r, view(r.View, len(r.Log), entry(r.View, 1)))
		}
		if r.Commit == 0 {
			twice(r, view(next, 0))
		}
		if r.Commit < len(r.Log) {
			twice(r, commit(r.Commit+1))
			twice(r, commit(len(r.Log)))
		}
	}
	twice(api.Register{}, base(0, 0, 0))
	twice(api.Register{}, base(1, 0, 0))
	twice(api.Register{}, base(9, 7, 2, plain().Log...))
}

// P15.3: behind random records the second time leads, if anywhere, to what was already.
func TestRandomRecordsASecondTime(t *testing.T) {
	r := rand.New(rand.NewSource(156))
	stayed := 0
	for range 300 {
		chain(r, 60, func(g api.Register, x api.Record) (api.Register, bool) {
			next, ok := Apply(g, x)
			if !ok {
				return next, false
			}
			if again, ok := Apply(next, x); ok {
				stayed++
				if !isSame(again, next) {
					t.Fatalf("%v leads from %v to %v, and then to %v", x, g, next, again)
				}
			}
			return next, true
		})
	}
	if stayed < 50 {
		t.Errorf("only %d records came twice", stayed)
	}
}

// inPieces lays the entries behind the register in a view, cut at those places, and tells what becomes of it.
func inPieces(r api.Register, epoch int, entries []api.Entry, cuts ...int) (api.Register, bool) {
	from := 0
	if epoch == r.View {
		from = len(r.Log)
	}
	at := 0
	for _, to := range append(cuts, len(entries)) {
		next, ok := Apply(r, view(epoch, from+at, entries[at:to]...))
		if !ok {
			return api.Register{}, false
		}
		r, at = next, to
	}
	return r, true
}

// wantPieces wants the entries to lead, cut at those places, to where they lead at once.
func wantPieces(t *testing.T, r api.Register, epoch int, entries []api.Entry, cuts ...int) {
	t.Helper()
	want, ok := inPieces(r, epoch, entries)
	if epoch > r.View && cuts[0] < r.Commit {
		want, ok = api.Register{}, false // the first piece lacks what is committed
	}
	if got, gotOK := inPieces(r, epoch, entries, cuts...); gotOK != ok || !isSame(got, want) {
		t.Fatalf("%v of the epoch %d behind %v, cut at %v: %v, %t, want %v, %t", entries, epoch, r, cuts, got, gotOK, want, ok)
	}
}

// P15.1, P15.3: entries in pieces, wherever they are cut once or twice, lead to where they lead at once.
func TestEntriesInPieces(t *testing.T) {
	whole := append(ofEpochs(1, 3, 3, 7), ofEpochs(7, 7, 8, 9)...)
	falling := append(slices.Clone(whole), entry(8, 1))
	tooMany := append(slices.Clone(whole), long(9, 57)...)
	for _, log := range [][]api.Entry{nil, whole[:1], whole, falling, tooMany} {
		for n := range 5 {
			old := reg(7, 7, n, ofEpochs(1, 3, 3, 7)...)
			for first := range len(log) + 1 {
				wantPieces(t, old, 9, log, first)
				for second := first; second <= len(log); second++ {
					wantPieces(t, old, 9, log, first, second)
				}
			}
		}
	}
	for first := range 61 {
		wantPieces(t, current(), 7, long(7, 60), first)
		wantPieces(t, current(), 7, long(7, 61), first)
		wantPieces(t, current(), 7, append(long(7, 59), entry(6, 1)), min(first, 59))
	}
}

// P15.1, P15.3: entries one by one, and in many random pieces, some of which are empty.
func TestEntriesInManyPieces(t *testing.T) {
	r := rand.New(rand.NewSource(157))
	came := 0
	for range 3000 {
		log := randomLog(r, 9, r.Intn(70))
		cuts := []int{}
		for range r.Intn(9) {
			cuts = append(cuts, r.Intn(len(log)+1))
		}
		slices.Sort(cuts)
		if len(cuts) == 0 {
			cuts = []int{0}
		}
		g := reg(9, r.Intn(9), 0)
		wantPieces(t, g, 9, log, cuts...)
		cuts = nil
		for at := range len(log) + 1 {
			cuts = append(cuts, at)
		}
		wantPieces(t, g, 9, log, cuts...)
		if _, ok := inPieces(g, 9, log); ok {
			came++
		}
	}
	if came < 1000 {
		t.Errorf("only %d logs came", came)
	}
}
