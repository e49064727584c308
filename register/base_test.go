package register

import (
	"math/rand"
	"slices"
	"testing"

	"archipelago/api"
)

// anyRegisters are registers that may be, and such that may not.
func anyRegisters() []api.Register {
	r := rand.New(rand.NewSource(152))
	l := append(someRegisters(), badRegisters()...)
	for range 300 {
		l = append(l, api.Register{Promised: anyNumber(r), View: anyNumber(r), Log: randomLog(r, anyNumber(r), randomLength(r)), Commit: anyNumber(r)})
	}
	return append(l, api.Register{Log: []api.Entry{}}, api.Register{Log: slices.Repeat([]api.Entry{foreign}, 1000)})
}

// wantBase wants of Base the record that says the register, in memory of its own.
func wantBase(t *testing.T, stream int, r api.Register) {
	t.Helper()
	want := api.Record{Kind: 4, Stream: stream, Epoch: r.Promised, View: r.View, Length: r.Commit, Entries: slices.Clone(r.Log)}
	m := inRoom(r.Log)
	r.Log = m.log
	first, second := Base(stream, r), Base(stream, r)
	if !isSameRecord(first, want) || !isSameRecord(second, want) {
		t.Fatalf("Base(%d, %v) = %v, and %v, want %v", stream, r, first, second, want)
	}
	writeAll(first.Entries)
	m.wantUntouched(t, "Base")
	writeAll(r.Log)
	if !isSameRecord(second, want) {
		t.Fatalf("Base's answer %v became %v", want, second)
	}
}

// wantClone wants of Clone the register, in memory of its own.
func wantClone(t *testing.T, r api.Register) {
	t.Helper()
	want := api.Register{Promised: r.Promised, View: r.View, Log: slices.Clone(r.Log), Commit: r.Commit}
	m := inRoom(r.Log)
	r.Log = m.log
	first, second := Clone(r), Clone(r)
	if !isSame(first, want) || !isSame(second, want) {
		t.Fatalf("Clone(%v) = %v, and %v", want, first, second)
	}
	writeAll(first.Log)
	m.wantUntouched(t, "Clone")
	writeAll(r.Log)
	if !isSame(second, want) {
		t.Fatalf("Clone's answer %v became %v", want, second)
	}
}

// P15.2: Base of a plain register, number by number.
func TestBaseOfAPlainRegister(t *testing.T) {
	x := Base(2, plain())
	want := api.Record{Kind: api.RecBase, Stream: 2, Epoch: 9, View: 7, From: 0, Length: 2, Entries: ofEpochs(1, 3, 3, 7)}
	if !isSameRecord(x, want) {
		t.Fatalf("%v, want %v", x, want)
	}
	x = Base(0, api.Register{})
	if x.Kind != api.RecBase || x.Stream != 0 || x.Epoch != 0 || x.View != 0 || x.From != 0 || x.Length != 0 || len(x.Entries) != 0 || len(x.Feed) != 0 {
		t.Fatalf("%v of the empty register", x)
	}
}

// P15.2: Base of any register and any stream, whether they may be or not.
func TestBase(t *testing.T) {
	for _, r := range anyRegisters() {
		for _, stream := range append([]int{-1, 0, 1, 2, 3, 4, 1 << 32}, ends...) {
			wantBase(t, stream, r)
		}
	}
}

// P15.2: each number of a register is said in a place of its own.
func TestBaseOfEachNumber(t *testing.T) {
	for _, n := range append([]int{-1, 0, 1, 5, mostEpoch + 1}, ends...) {
		wantBase(t, n, reg(1, 2, 3))
		wantBase(t, 1, reg(n, 2, 3))
		wantBase(t, 1, reg(1, n, 3, ofEpochs(1)...))
		wantBase(t, 1, reg(1, 2, n, ofEpochs(1)...))
		e := entry(1, 1)
		for i := range fields(&e) {
			other := e
			*fields(&other)[i] = n
			wantBase(t, 1, reg(1, 2, 3, e, other))
		}
	}
}

// P15.2: Clone of any register, whether it may be or not.
func TestClone(t *testing.T) {
	wantClone(t, plain())
	for _, r := range anyRegisters() {
		wantClone(t, r)
		wantClone(t, Clone(r))
	}
}

// P15.2: what is cloned has no memory of the first one: of each entry by itself, either way.
func TestCloneOfEachEntry(t *testing.T) {
	r := reg(5, 5, 3, long(5, mostLog)...)
	for at := range r.Log {
		x := Clone(r)
		x.Log[at].Order.ID = 9999
		x.Promised, x.View, x.Commit = 1, 1, 1
		if !isSame(r, reg(5, 5, 3, long(5, mostLog)...)) {
			t.Fatalf("the register became %v", r)
		}
		y := Clone(r)
		r.Log[at].Order.ID = 9999
		if !isSame(y, reg(5, 5, 3, long(5, mostLog)...)) {
			t.Fatalf("the clone became %v", y)
		}
		r = y
	}
}

// P15.1, P15.2: logs that grow from one register, one beside the other, have no memory in common: neither with it, nor
// with one another, nor with the entries that came in.
func TestLogsThatGrowFromOne(t *testing.T) {
	r := reg(7, 7, 0)
	for range 5 {
		var ok bool
		if r, ok = Apply(r, view(7, len(r.Log), entry(7, 1+len(r.Log)))); !ok {
			t.Fatal("an entry does not come")
		}
	}
	was := slices.Clone(r.Log)
	more := ofEpochs(7, 7)
	var grown []api.Register
	for id := range 4 {
		x, ok := Apply(r, view(7, 5, entry(7, 50+id), more[0]))
		if !ok {
			t.Fatal("entries do not come")
		}
		grown = append(grown, x)
	}
	same, _ := Apply(r, view(7, 5))
	next, _ := Apply(r, view(8, 0, r.Log...))
	sure, _ := Apply(r, commit(5))
	far, _ := Apply(r, promise(9))
	for id, x := range grown {
		if !isSameLog(x.Log, slices.Concat(was, []api.Entry{entry(7, 50+id), more[0]})) {
			t.Fatalf("the log of %d is %v", id, x.Log)
		}
		writeAll(x.Log)
	}
	for _, x := range []api.Register{same, next, sure, far} {
		if !isSameLog(x.Log, was) {
			t.Fatalf("a log is %v", x.Log)
		}
		writeAll(x.Log)
	}
	if !isSameLog(r.Log, was) || !isSameLog(more, ofEpochs(7, 7)) {
		t.Fatalf("the register became %v, and the entries %v", r, more)
	}
}

// P15.1, P15.2: one list in several places of what is handed in: the log and the entries, of which one begins in the other.
func TestOneListInSeveralPlaces(t *testing.T) {
	all := long(7, 20)
	was := slices.Clone(all)
	for from := range 10 {
		for to := from; to < 20; to++ {
			wantBehindOfOne(t, reg(7, 7, 0, all[:from]...), view(7, from, all[from:to]...))
			wantBehindOfOne(t, reg(7, 7, 0, all[from:to]...), view(7, to-from, all[:to]...))
			wantBehindOfOne(t, reg(7, 7, 0, all[from:to]...), view(7, to-from, all[from:to]...))
			wantBehindOfOne(t, reg(7, 7, min(from, 2), all[:to]...), view(8, 0, all[:from]...))
		}
	}
	if !isSameLog(all, was) {
		t.Fatalf("the list became %v", all)
	}
}

// wantBehindOfOne wants Apply to tell what the chapter's words lead to, and its log to have no memory of what came in.
func wantBehindOfOne(t *testing.T, r api.Register, x api.Record) {
	t.Helper()
	want, ok := applyByHand(r, x)
	want = api.Register{Promised: want.Promised, View: want.View, Log: slices.Clone(want.Log), Commit: want.Commit}
	got, gotOK := Apply(r, x)
	if gotOK != ok || !isSame(got, want) {
		t.Fatalf("Apply(%v, %v) = %v, %t, want %v, %t", r, x, got, gotOK, want, ok)
	}
	writeAll(got.Log)
}
