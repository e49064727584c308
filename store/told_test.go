package store

import (
	"fmt"
	"slices"
	"testing"

	"archipelago/api"
)

// A store that is nil, or that Open did not make: ErrNil ahead of all else; no feed, 0, false.
func TestNoStore(t *testing.T) {
	for _, s := range []*Store{nil, {}, new(Store)} {
		for _, stream := range append([]int{-1, 0, 3, 4}, ends...) {
			if r, err := s.Register(stream); err != api.ErrNil || !isSameRegister(r, api.Register{}) {
				t.Errorf("Register(%d) = %v, %d", stream, r, err)
			}
		}
		wantErr(t, s.Write(nil), api.ErrNil)
		wantErr(t, s.Write([]api.Record{promise(0, 1)}), api.ErrNil)
		wantErr(t, s.Write([]api.Record{{}}), api.ErrNil)
		wantErr(t, s.Sync(), api.ErrNil)
		wantErr(t, s.Checkpoint(), api.ErrNil)
		if l, sure := s.Feed(); l != nil || sure != 0 || s.Dirty() {
			t.Errorf("Feed = %v, %d, Dirty = %t", l, sure, s.Dirty())
		}
	}
}

// P16.3: Register is ErrArg, if there is no such stream.
func TestRegister(t *testing.T) {
	_, s, h := someStore(t)
	for stream := range streams {
		r, err := s.Register(stream)
		must(t, err)
		if !isSameRegister(r, h.registers[stream]) {
			t.Errorf("Register(%d) = %v, want %v", stream, r, h.registers[stream])
		}
	}
	for _, stream := range append([]int{-1, -4, 4, 5, 1 << 32}, ends...) {
		if r, err := s.Register(stream); err != api.ErrArg || !isSameRegister(r, api.Register{}) {
			t.Errorf("Register(%d) = %v, %d", stream, r, err)
		}
	}
}

// P16.3: Feed and Dirty, ahead of a Write and behind it, behind Sync, behind a Checkpoint, and behind a new Open.
func TestFeedAndDirty(t *testing.T) {
	d := newDisk(t, roomy)
	s := wantOpen(t, d, hand{})
	wantTold := func(dirty bool, sure int, numbers ...int) {
		t.Helper()
		l, n := s.Feed()
		if s.Dirty() != dirty || n != sure || !slices.Equal(l, spots(numbers...)) {
			t.Fatalf("Feed = %v, %d, Dirty = %t, want %v, %d, %t", l, n, s.Dirty(), spots(numbers...), sure, dirty)
		}
	}
	write := func(l ...api.Record) {
		t.Helper()
		must(t, s.Write(l))
	}
	wantTold(false, 0)
	write()
	wantTold(false, 0)
	write(view(1, 1, 0, entries(1, 1, 3)...))
	wantTold(true, 0)
	must(t, s.Sync())
	wantTold(false, 0)
	write(commit(1, 2))
	wantTold(true, 0, 1, 0, 1, 1)
	must(t, s.Sync())
	wantTold(false, 2, 1, 0, 1, 1)
	write(view(0, 1, 0, entry(0, 1, 1)), commit(0, 1))
	write(commit(1, 3))
	wantTold(true, 2, 1, 0, 1, 1, 0, 0, 1, 2)
	wantErr(t, s.Write([]api.Record{commit(1, 4)}), api.ErrArg)
	wantTold(true, 2, 1, 0, 1, 1, 0, 0, 1, 2)
	must(t, s.Checkpoint())
	wantTold(false, 4, 1, 0, 1, 1, 0, 0, 1, 2)
	write(promise(2, 1))
	wantTold(true, 4, 1, 0, 1, 1, 0, 0, 1, 2)
	write(view(0, 1, 1, entries(0, 1, 1)...), commit(0, 2))
	wantTold(true, 4, 1, 0, 1, 1, 0, 0, 1, 2, 0, 1)
	s, err := Open(d)
	must(t, err)
	wantTold(false, 5, 1, 0, 1, 1, 0, 0, 1, 2, 0, 1)
	write(view(0, 1, 2, entries(0, 1, 1)...), commit(0, 3))
	wantTold(true, 5, 1, 0, 1, 1, 0, 0, 1, 2, 0, 1, 0, 2)
	must(t, d.Crash(nil))
	wantTold(true, 5, 1, 0, 1, 1, 0, 0, 1, 2, 0, 1, 0, 2)
	must(t, d.Start())
	wantErr(t, s.Sync(), api.ErrDown)
	wantTold(true, 5, 1, 0, 1, 1, 0, 0, 1, 2, 0, 1, 0, 2)
}

// P16.3: Sync makes sure what was written: one change of the disk, and none, if the store is not dirty.
func TestSync(t *testing.T) {
	d, s, h := someStore(t)
	wantSame(t, d, s, api.OK, s.Sync)
	h = wantWrite(t, s, h, promise(0, 9), view(0, 9, 0, append(entries(0, 1, 2), entry(0, 2, 9), entry(0, 9, 3))...), commit(0, 4))
	must(t, d.Fail(1, nil))
	must(t, s.Sync())
	want(t, s, h.synced())
	if !slices.Equal(d.Unsynced(), []int{0}) {
		t.Errorf("Unsynced = %v", d.Unsynced())
	}
	wantSame(t, d, s, api.OK, s.Sync)
	wantErr(t, d.Append("t", ""), api.ErrDown)
	must(t, d.Start())
	wantOpen(t, d, h.synced())
}

// P16.3: Sync of a store that is not dirty is OK, also on a disk that is down; of a dirty one it is the disk's error, and
// the store stays dirty.
func TestSyncOnDiskThatIsDown(t *testing.T) {
	d, s, h := someStore(t)
	must(t, d.Crash(nil))
	wantSame(t, d, s, api.OK, s.Sync)
	must(t, d.Start())
	wantSame(t, d, s, api.OK, s.Sync)
	for _, fail := range []bool{true, false} {
		s = wantOpen(t, d, h)
		dirty := wantWrite(t, s, h, view(3, 7, 3, entry(3, 7, 5)), commit(3, 4))
		if fail {
			must(t, d.Fail(0, nil))
		} else {
			must(t, d.Crash(nil))
		}
		wantErr(t, s.Sync(), api.ErrDown)
		want(t, s, dirty)
		wantErr(t, s.Sync(), api.ErrDown)
		must(t, d.Start())
		wantErr(t, s.Sync(), api.ErrDown)
		want(t, s, dirty)
		wantOpen(t, d, h)
	}
}

// P16.3: what Register and Feed answer is memory of its own.
func TestOwnMemory(t *testing.T) {
	d, s, h := someStore(t)
	spoil := func() {
		for stream := range streams {
			r, err := s.Register(stream)
			must(t, err)
			for i := range r.Log[:cap(r.Log)] {
				r.Log[:cap(r.Log)][i] = entry(9, 9, 9)
			}
			_ = append(r.Log, entry(8, 8, 8))
		}
		l, _ := s.Feed()
		for i := range l[:cap(l)] {
			l[:cap(l)][i] = api.Spot{Stream: 9, Index: 9}
		}
		_ = append(l, api.Spot{Stream: 8, Index: 8})
	}
	spoil()
	want(t, s, h)
	r, _ := s.Register(3)
	l, _ := s.Feed()
	was := fmt.Sprint(r, l)
	h = wantWrite(t, s, h, view(3, 7, 3, entries(3, 7, 9)...), commit(3, 9))
	if fmt.Sprint(r, l) != was {
		t.Errorf("%v %v was %s", r, l, was)
	}
	spoil()
	want(t, s, h)
	h = wantWrite(t, s, h, commit(3, 10))
	spoil()
	must(t, s.Checkpoint())
	spoil()
	want(t, s, h.synced())
	wantOpen(t, d, h.synced())
}

// P16.3: what is written to one store, another one on a disk of its own has not.
func TestStoresApart(t *testing.T) {
	d := newDisk(t, roomy)
	a, b := wantOpen(t, d, hand{}), wantOpen(t, newDisk(t, roomy), hand{})
	h := wantWrite(t, a, hand{}, some()...)
	want(t, b, hand{})
	wantWrite(t, b, hand{}, promise(0, 7))
	want(t, a, h)
}
