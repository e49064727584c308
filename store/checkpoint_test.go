package store

import (
	"slices"
	"testing"

	"archipelago/api"
)

// wantCheckpoint wants a checkpoint of the store that is told by hand to be OK, the log to have just its records then, and
// a crash to lead there.
func wantCheckpoint(t *testing.T, l ...api.Record) {
	t.Helper()
	for _, dirty := range []bool{true, false} {
		d := newDisk(t, roomy)
		s := wantOpen(t, d, hand{})
		h := wantWrite(t, s, hand{}, l...)
		if !dirty {
			must(t, s.Sync())
		}
		for range 2 {
			must(t, s.Checkpoint())
			want(t, s, h.synced())
			if got := payloadsOf(t, d); !slices.Equal(got, bytesOf(t, h.bases()...)) {
				t.Fatalf("the log is %q, want the bytes of %v", got, h.bases())
			}
			if len(d.Names()) != 1 || !slices.Equal(d.Unsynced(), []int{0}) {
				t.Fatalf("files %q, unsynced %v", d.Names(), d.Unsynced())
			}
		}
		crash(t, d, 0)
		s = wantOpen(t, d, h.synced())
		wantWrite(t, s, h.synced(), view(0, mostEpoch, 0, h.registers[0].Log...))
	}
}

// P16.4: a checkpoint of a store that is empty, of one with promises alone, of one with four streams and a feed.
func TestCheckpoint(t *testing.T) {
	wantCheckpoint(t)
	for stream := range streams {
		wantCheckpoint(t, promise(stream, 1))
		wantCheckpoint(t, view(stream, 1, 0), promise(stream, 2))
		wantCheckpoint(t, view(stream, 5, 0, entries(stream, 3, 2)...))
		wantCheckpoint(t, view(stream, 5, 0, entries(stream, 3, 2)...), commit(stream, 1))
		wantCheckpoint(t, promise(3-stream, 7), view(stream, 5, 0, entries(stream, 3, 2)...), commit(stream, 2))
	}
	for n := range len(some()) {
		wantCheckpoint(t, some()[:n+1]...)
	}
	wantCheckpoint(t, view(3, 1, 0, entries(3, 1, 2)...), view(0, 1, 0, entries(0, 1, 2)...), commit(3, 1), commit(0, 1), commit(3, 2), commit(0, 2))
}

// The chapter's words of a checkpoint, once without the reading by hand.
func TestRecordsOfCheckpoint(t *testing.T) {
	d, s, _ := someStore(t)
	must(t, s.Checkpoint())
	l := bytesOf(t,
		base(0, 4, 2, 3, append(entries(0, 1, 2), entry(0, 2, 9))...), base(1, 5, 5, 1, entry(1, 5, 4)), base(2, mostEpoch, 0, 0), base(3, 7, 7, 2, entries(3, 7, 3)...),
		feed(0, 0, 0, 1, 3, 0, 0, 2, 3, 1, 1, 0))
	if got := payloadsOf(t, d); !slices.Equal(got, l) {
		t.Errorf("the log is %q, want %q", got, l)
	}
}

// P16.4: the longest feed there is: each of four streams, one entry a stream in turn.
func TestCheckpointOfLongestFeed(t *testing.T) {
	var l []api.Record
	for stream := range streams {
		l = append(l, view(stream, mostEpoch, 0, entries(stream, mostEpoch, 64)...))
	}
	for i := range 64 {
		for _, stream := range []int{2, 0, 3, 1} {
			l = append(l, commit(stream, i+1))
		}
	}
	d := newDisk(t, roomy)
	s := wantOpen(t, d, hand{})
	h := wantWrite(t, s, hand{}, l...)
	if len(h.feed) != 256 {
		t.Fatalf("a feed of %d", len(h.feed))
	}
	must(t, s.Checkpoint())
	want(t, s, h.synced())
	crash(t, d, 0)
	s = wantOpen(t, d, h.synced())
	for stream := range streams {
		wantNoWrite(t, d, s, api.ErrArg, commit(stream, 65))
		wantNoWrite(t, d, s, api.ErrArg, view(stream, mostEpoch, 64, entry(stream, mostEpoch, 65)))
		wantNoWrite(t, d, s, api.ErrArg, promise(stream, mostEpoch))
	}
}

// P16.4: the changes of a checkpoint: one sync, if the store is dirty, and wal.Checkpoint's.
func TestChangesOfCheckpoint(t *testing.T) {
	for _, dirty := range []bool{true, false} {
		d, s, h := someStore(t)
		changes := 4 // the file t appended, synced, and renamed; the old one removed
		if dirty {
			h = wantWrite(t, s, h, promise(3, 8))
			changes++
		}
		must(t, d.Fail(changes, nil))
		must(t, s.Checkpoint())
		want(t, s, h.synced())
		wantErr(t, d.Append("t", ""), api.ErrDown)
	}
}

// P16.4: a disk without room for the checkpoint: ErrFull, and all but the sync is as it was.
func TestCheckpointWithoutRoom(t *testing.T) {
	full := 0
	for more := range 400 {
		size := withLog(t, bytesOf(t, some()...)...).Size()
		d := newDisk(t, size+more)
		s := wantOpen(t, d, hand{})
		h := wantWrite(t, s, hand{}, some()...)
		names := d.Names()
		switch err := s.Checkpoint(); err {
		case api.OK:
			if names = []string{"c2"}; more < 100 {
				t.Errorf("%d bytes more are room", more)
			}
		case api.ErrFull:
			full++
			wantSame(t, d, s, api.ErrFull, s.Checkpoint)
		default:
			t.Errorf("Checkpoint = %d", err)
		}
		want(t, s, h.synced())
		if !slices.Equal(d.Names(), names) || !slices.Equal(d.Unsynced(), []int{0}) {
			t.Errorf("files %q, unsynced %v", d.Names(), d.Unsynced())
		}
		if full == more+1 && more > 13 {
			wantWrite(t, s, h.synced(), promise(3, 8))
		}
		wantOpen(t, d, told(s).synced())
	}
	if full < 100 || full > 350 {
		t.Errorf("%d were full", full)
	}
}

// P16.4: on a disk that is down, or was started since, ErrDown: of a store that is dirty, or not.
func TestCheckpointOnDiskThatIsDown(t *testing.T) {
	for _, dirty := range []bool{true, false} {
		d, s, h := someStore(t)
		if dirty {
			wantWrite(t, s, h, promise(3, 8))
		}
		must(t, d.Crash(nil))
		wantSame(t, d, s, api.ErrDown, s.Checkpoint)
		must(t, d.Start())
		wantSame(t, d, s, api.ErrDown, s.Checkpoint)
		wantOpen(t, d, h)
	}
}

// P16.4, P16.5: a disk that fails at each change of a checkpoint in turn, with so many bytes kept: the same store behind a
// start, but that by the failure of the sync what was not sure may be lost.
func TestCheckpointOnDiskThatFails(t *testing.T) {
	more := []api.Record{promise(3, 8), view(0, 4, 0, append(entries(0, 1, 2), entry(0, 2, 9), entry(0, 4, 3))...), commit(0, 4)}
	failed, lost := 0, 0
	for _, dirty := range []bool{true, false} {
		for n := range 9 {
			for _, keep := range []int{0, 1, 13, 14, 20, 60, 90, roomy} {
				d, s, sure := someStore(t)
				must(t, s.Checkpoint())
				h := wantWrite(t, s, sure, promise(1, 6))
				must(t, s.Sync())
				sure = h.synced()
				if h = sure; dirty {
					h = wantWrite(t, s, sure, more...)
				}
				must(t, d.Fail(n, slices.Repeat([]int{keep}, 16)))
				err := s.Checkpoint()
				if err == api.OK {
					continue
				}
				failed++
				wantErr(t, err, api.ErrDown)
				if dirty && n > 0 {
					h = h.synced() // the sync was the first change
				}
				want(t, s, h)
				must(t, d.Start())
				found, err := Open(d)
				must(t, err)
				if dirty && n == 0 && !isSame(found, h.synced()) {
					wantSomeOf(t, found, sure, more)
					lost++
				} else {
					want(t, found, h.synced())
				}
			}
		}
	}
	if failed != (6+5)*8 || lost < 4 {
		t.Errorf("%d failed, of %d something was lost", failed, lost)
	}
}

// wantSomeOf wants the store to be the one behind some of the first records of a list, and tells how many.
func wantSomeOf(t *testing.T, s *Store, h hand, l []api.Record) int {
	t.Helper()
	for n := range len(l) + 1 {
		next, _ := h.written(l[:n]...)
		if isSame(s, next.synced()) {
			return n
		}
	}
	t.Fatalf("the store is %v, want %v, and behind it some of the first of %v", told(s), h, l)
	return 0
}
