package store

import (
	"math/rand"
	"slices"
	"strings"
	"testing"

	"archipelago/api"
	"archipelago/disk"
)

// wantLog wants what Open tells of a log of these records to be what it is by hand, and that to be OK or not.
func wantLog(t *testing.T, ok bool, l ...api.Record) {
	t.Helper()
	d := withLog(t, bytesOf(t, l...)...)
	h, byHand := opened(l...)
	if byHand != ok {
		t.Fatalf("by hand Open of %v is %t, want %t", l, byHand, ok)
	}
	before := image(d)
	if ok {
		wantOpen(t, d, h)
	} else {
		wantNoOpen(t, d, api.ErrBroke)
	}
	if image(d) != before {
		t.Fatalf("Open of %v changed the disk", l)
	}
}

// P16.1: of a disk that is none, or down, wal.Open's error, whatever it has.
func TestOpenOfNoDisk(t *testing.T) {
	wantNoOpen(t, nil, api.ErrNil)
	wantNoOpen(t, &disk.Disk{}, api.ErrNil)
	for _, d := range []*disk.Disk{newDisk(t, 1), withLog(t, bytesOf(t, some()...)...), withLog(t, "?"), withFile(t, newDisk(t, 9), "q", "")} {
		must(t, d.Crash(nil))
		wantNoOpen(t, d, api.ErrDown)
		before := image(d)
		wantNoOpen(t, d, api.ErrDown)
		if image(d) != before {
			t.Error("the disk was changed")
		}
	}
}

// P16.1: of a disk without files the store is empty.
func TestOpenOfEmptyDisk(t *testing.T) {
	for _, capacity := range []int{1, 100, roomy} {
		d := newDisk(t, capacity)
		before := image(d)
		s := wantOpen(t, d, hand{})
		if image(d) != before {
			t.Error("Open changed the disk")
		}
		l, sure := s.Feed()
		if len(l) != 0 || sure != 0 || s.Dirty() {
			t.Errorf("Feed = %v, %d, Dirty = %t", l, sure, s.Dirty())
		}
	}
	wantOpen(t, withFile(t, newDisk(t, 1), "s1", ""), hand{})
	wantOpen(t, withFile(t, newDisk(t, 1), "c7", ""), hand{})
}

// P16.1: files that are no log's are wal's ErrBroke, and stay as they are.
func TestOpenOfNoLog(t *testing.T) {
	good := bytesOf(t, some()...)
	frames := func(t *testing.T, d *disk.Disk) string {
		s, err := d.Read("s1")
		must(t, err)
		return s
	}(t, withLog(t, good...))
	for _, d := range []*disk.Disk{
		withFile(t, withLog(t, good...), "q", ""),
		withFile(t, withLog(t, good...), "s01", ""),
		withFile(t, withLog(t, good...), "s3", ""),
		withFile(t, newDisk(t, roomy), "c2", frames[:len(frames)-1]),
		withFile(t, withFile(t, newDisk(t, roomy), "s1", frames[:len(frames)-1]), "s2", ""),
	} {
		before := image(d)
		wantNoOpen(t, d, api.ErrBroke)
		if image(d) != before {
			t.Error("Open changed the disk")
		}
	}
}

// P16.1: what wal.Open mends is mended: a last segment that is cut, and files that are stale.
func TestOpenMends(t *testing.T) {
	h := someHand(t)
	d := withLog(t, bytesOf(t, some()...)...)
	size := d.Size()
	withFile(t, withFile(t, d, "s1", "\x02??"), "t", "?")
	wantOpen(t, d, h)
	if !slices.Equal(d.Names(), []string{"s1"}) || d.Size() != size {
		t.Errorf("files %q of %d bytes", d.Names(), d.Size())
	}
	withFile(t, d, "t", "?")
	must(t, d.Fail(0, nil))
	wantNoOpen(t, d, api.ErrDown)
	must(t, d.Start())
	wantOpen(t, d, h)
	withFile(t, d, "t", "?")
	must(t, d.Fail(1, nil))
	wantOpen(t, d, h)
	wantErr(t, d.Append("t", ""), api.ErrDown) // Open did that one change alone: so this is the next one
}

// noRecords are bytes of no record that may be.
func noRecords(t *testing.T) []string {
	l := []string{"", "\x00", "?", strings.Repeat("\x00", 8), strings.Repeat("x", 8192), "\x0c\x00\x00\x00\x00\x00\x00\x00"}
	for _, s := range bytesOf(t, some()...) {
		l = append(l, s[:len(s)-1], s+"\x00", "\x00"+s, s[1:])
	}
	l = append(l, "\x02\x08\x06\x00\x00\x00\x00\x00", "\x02\x01\x06\x00\x00\x00\x00\x00", "\x02\x00\x00\x00\x00\x00\x00\x00", "\x02\x00\x02\x00\x02\x00\x00\x00", "\x06\x00\x00\x00\x00\x82\x01\x00\x00")
	return l
}

// P16.1: a payload that is no record's bytes, wherever it stands among good ones, is ErrBroke.
func TestOpenOfNoRecords(t *testing.T) {
	good := bytesOf(t, some()...)
	for _, bad := range noRecords(t) {
		wantNoOpen(t, withLog(t, bad), api.ErrBroke)
		for at := range len(good) + 1 {
			wantNoOpen(t, withLog(t, slices.Insert(slices.Clone(good), at, bad)...), api.ErrBroke)
		}
	}
	wantOpen(t, withLog(t, good...), someHand(t))
}

// P16.1: a log's records lead to the store behind all of them, each beginning of them to that behind it.
func TestOpenOfRecords(t *testing.T) {
	for n := range len(some()) + 1 {
		wantLog(t, true, some()[:n]...)
	}
	for stream := range streams {
		wantLog(t, true, promise(stream, 1))
		wantLog(t, true, promise(stream, 1), view(stream, 1, 0, entries(stream, 1, 64)...), commit(stream, 64))
		wantLog(t, true, view(stream, mostEpoch, 0, entries(stream, 9, 3)...), commit(stream, 1), commit(stream, 3))
	}
}

// P16.1: a record that may not come behind those ahead is ErrBroke, also if it may behind those of another stream.
func TestOpenOfRecordsOutOfOrder(t *testing.T) {
	for _, bad := range []api.Record{
		promise(0, 4), promise(3, 7), promise(2, mostEpoch), view(0, 3, 0, entries(0, 1, 3)...), view(3, 7, 2, entry(3, 7, 5)), view(3, 8, 0, entries(3, 7, 1)...),
		view(0, 4, 3, entry(0, 4, 9)), commit(0, 3), commit(0, 4), commit(2, 1), commit(1, 1), commit(0, 0), base(0, 9, 9, 0), base(1, 5, 5, 1, entry(1, 5, 4)), feed(), feed(0, 0, 0, 1, 3, 0, 0, 2, 3, 1, 1, 0),
	} {
		wantLog(t, false, append(some(), bad)...)
		wantLog(t, false, append(some(), bad, promise(1, 99))...)
	}
	for _, bad := range []api.Record{commit(0, 1), view(0, 1, 1), base(1, 1, 2, 0), base(1, 2, 1, 0, entry(1, 2, 1)), base(1, 0, 0, 1, entry(1, 1, 1)), feed(0, 0)} {
		wantLog(t, false, bad)
		wantLog(t, false, bad, promise(3, 1))
		wantLog(t, false, promise(3, 1), bad)
	}
}

// P16.1: what a checkpoint lays: a RecBase of each stream, in any order, and a RecFeed behind them.
func TestOpenOfBases(t *testing.T) {
	wantLog(t, true, someHand(t).bases()...)
	wantLog(t, true, base(0, 1, 0, 0))
	wantLog(t, true, base(0, 0, 0, 0), base(0, 0, 0, 0), base(0, 3, 2, 0, entry(0, 1, 1)))
	wantLog(t, true, base(3, 1, 1, 1, entry(3, 1, 1)), base(0, 2, 1, 2, entries(0, 1, 2)...), feed(0, 0, 3, 0, 0, 1))
	wantLog(t, true, base(3, 1, 1, 1, entry(3, 1, 1)), base(0, 2, 1, 2, entries(0, 1, 2)...), feed(0, 0, 0, 1, 3, 0))
	wantLog(t, true, base(2, 1, 1, 1, entry(2, 1, 1)), promise(0, 1), promise(2, 4), feed(2, 0), promise(2, 5))
	wantLog(t, true, base(2, 1, 1, 1, entries(2, 1, 3)...), feed(2, 0), commit(2, 2), view(1, 1, 0, entry(1, 1, 1)), commit(1, 1), commit(2, 3), base(0, 7, 0, 0))
	wantLog(t, true, view(1, 1, 0, entry(1, 1, 1)), base(0, 5, 5, 0, entry(0, 5, 1)), commit(1, 1), base(2, 5, 5, 0), commit(0, 1))
	var full []api.Record
	var numbers []int
	for stream := range streams {
		full = append(full, base(stream, 9, 9, 64, entries(stream, 9, 64)...))
		for i := range 64 {
			numbers = append(numbers, stream, i)
		}
	}
	wantLog(t, true, append(full, feed(numbers...))...)
	wantLog(t, false, append(full, feed(numbers[2:]...))...)
	wantLog(t, false, append(full, feed(numbers[:510]...))...)
	wantLog(t, false, full...)
}

// P16.1: a RecBase comes only behind the empty register of its stream.
func TestOpenOfBaseTooLate(t *testing.T) {
	for stream := range streams {
		wantLog(t, false, promise(stream, 1), base(stream, 2, 0, 0))
		wantLog(t, false, base(stream, 1, 0, 0), base(stream, 1, 0, 0))
		wantLog(t, false, base(stream, 1, 0, 0), base(stream, 0, 0, 0))
		wantLog(t, false, view(stream, 1, 0), promise((stream+1)%4, 1), base(stream, 2, 0, 0))
		wantLog(t, true, promise(stream, 1), base((stream+1)%4, 2, 0, 0))
	}
}

// P16.1: a RecFeed has just the places that are committed, each stream's from 0 on in order.
func TestOpenOfFeeds(t *testing.T) {
	ahead := []api.Record{base(0, 1, 1, 2, entries(0, 1, 3)...), base(2, 1, 1, 1, entries(2, 1, 1)...)}
	for _, x := range []struct {
		ok   bool
		feed []int
	}{
		{true, []int{0, 0, 0, 1, 2, 0}}, {true, []int{0, 0, 2, 0, 0, 1}}, {true, []int{2, 0, 0, 0, 0, 1}},
		{false, nil}, {false, []int{0, 0}}, {false, []int{2, 0}}, {false, []int{0, 0, 0, 1}}, {false, []int{0, 0, 2, 0}}, {false, []int{0, 1, 2, 0}},
		{false, []int{0, 0, 0, 1, 2, 0, 0, 2}}, {false, []int{0, 0, 0, 1, 2, 0, 2, 1}}, {false, []int{0, 0, 0, 1, 2, 0, 1, 0}}, {false, []int{3, 0, 0, 0, 0, 1, 2, 0}},
		{false, []int{0, 0, 0, 1, 2, 0, 2, 0}}, {false, []int{0, 0, 0, 0, 0, 1, 2, 0}}, {false, []int{0, 0, 0, 1, 0, 1, 2, 0}}, {false, []int{0, 0, 0, 0, 2, 0}}, {false, []int{0, 0, 0, 1, 0, 1}},
		{false, []int{0, 1, 0, 0, 2, 0}}, {false, []int{0, 1, 2, 0, 0, 0}}, {false, []int{0, 0, 0, 2, 2, 0}}, {false, []int{0, 1, 0, 2, 2, 0}}, {false, []int{1, 0, 1, 1, 2, 0}}, {false, []int{0, 0, 0, 1, 2, 1}}, {false, []int{2, 0, 2, 1, 0, 0}},
	} {
		wantLog(t, x.ok, append(ahead, feed(x.feed...))...)
		wantLog(t, x.ok, append(ahead, feed(x.feed...), commit(0, 3))...)
		wantLog(t, false, append(ahead, commit(0, 3), feed(x.feed...))...)
		wantLog(t, false, append([]api.Record{feed(x.feed...)}, append(ahead, feed(x.feed...), feed(x.feed...))...)...)
		if len(x.feed) > 0 {
			wantLog(t, false, append([]api.Record{feed(x.feed...)}, ahead...)...)
			wantLog(t, false, ahead[0], feed(x.feed...), ahead[1])
		}
	}
	wantLog(t, true, feed())
	wantLog(t, true, feed(), feed(), promise(0, 1), feed(), view(0, 1, 0, entry(0, 1, 1)), feed(), commit(0, 1))
	wantLog(t, false, view(0, 1, 0, entry(0, 1, 1)), commit(0, 1), feed())
	wantLog(t, false, view(0, 1, 0, entry(0, 1, 1)), commit(0, 1), feed(0, 0))
	wantLog(t, true, append([]api.Record{feed()}, append(ahead, feed(0, 0, 0, 1, 2, 0))...)...)
	wantLog(t, false, append(ahead, feed(0, 0, 0, 1, 2, 0), feed(0, 0, 0, 1, 2, 0))...)
	wantLog(t, false, append(ahead, feed(0, 0, 0, 1, 2, 0), feed())...)
}

// P16.1: what is committed by a RecBase, and in no feed in the end, is ErrBroke.
func TestOpenOfLackingFeed(t *testing.T) {
	wantLog(t, false, base(0, 1, 1, 1, entry(0, 1, 1)))
	wantLog(t, false, base(0, 1, 1, 1, entries(0, 1, 2)...), commit(0, 2))
	wantLog(t, false, base(0, 1, 1, 1, entries(0, 1, 2)...), commit(0, 2), feed(0, 0, 0, 1))
	wantLog(t, false, base(0, 1, 1, 1, entry(0, 1, 1)), feed(0, 0), base(1, 1, 1, 1, entry(1, 1, 1)))
	wantLog(t, false, view(0, 1, 0, entry(0, 1, 1)), commit(0, 1), base(1, 1, 1, 1, entry(1, 1, 1)))
	wantLog(t, false, view(0, 1, 0, entry(0, 1, 1)), commit(0, 1), base(1, 1, 1, 1, entry(1, 1, 1)), feed(0, 0, 1, 0))
	wantLog(t, true, base(0, 1, 1, 1, entry(0, 1, 1)), view(1, 1, 0, entry(1, 1, 1)), feed(0, 0), commit(1, 1))
}

// P16.1: records at random, of all kinds, behind one another.
func TestOpenOfRandomLogs(t *testing.T) {
	r := rand.New(rand.NewSource(1))
	count := map[bool]int{}
	long := 0
	for range 3000 {
		var l []api.Record
		var h hand
		for range r.Intn(60) {
			x := randomWrite(r, h)
			switch r.Intn(9) {
			case 0:
				stream, n := r.Intn(streams), r.Intn(3)
				x = base(stream, 5, 5, r.Intn(n+1), entries(stream, 5, n)...)
			case 1:
				x = feed()
				for _, stream := range r.Perm(streams) {
					for i := range h.registers[stream].Commit {
						x.Feed = append(x.Feed, api.Spot{Stream: stream, Index: i})
					}
				}
			}
			next, ok := h.lay(x)
			if _, may := bytesIfAny(x); !may || (!ok && r.Intn(50) > 0) {
				continue
			}
			h, l = next, append(l, x)
		}
		_, ok := opened(l...)
		count[ok]++
		if ok && len(h.feed) > 3 {
			long++
		}
		wantLog(t, ok, l...)
	}
	if count[true] < 900 || count[false] < 500 || long < 200 {
		t.Errorf("too few: %v, %d", count, long)
	}
}
