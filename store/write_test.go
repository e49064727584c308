package store

import (
	"math/rand"
	"slices"
	"testing"

	"archipelago/api"
	"archipelago/wal"
)

// The chapter's first example.
func TestExample(t *testing.T) {
	d := newDisk(t, roomy)
	s := wantOpen(t, d, hand{})
	must(t, s.Write([]api.Record{promise(0, 1), view(0, 1, 0, entries(0, 1, 2)...), commit(0, 2)}))
	h := hand{feed: spots(0, 0, 0, 1), dirty: true}
	h.registers[0] = api.Register{Promised: 1, View: 1, Log: entries(0, 1, 2), Commit: 2}
	want(t, s, h)
	must(t, s.Sync())
	h.sure, h.dirty = 2, false
	want(t, s, h)
	wantErr(t, s.Write([]api.Record{commit(0, 3)}), api.ErrArg)
	wantErr(t, s.Write([]api.Record{base(1, 1, 1, 0)}), api.ErrArg)
	must(t, s.Checkpoint())
	must(t, d.Crash(nil))
	must(t, d.Start())
	wantOpen(t, d, h)
}

// P16.2: no records: nothing is done, whatever the disk.
func TestWriteOfNothing(t *testing.T) {
	d, s, h := someStore(t)
	wantNoWrite(t, d, s, api.OK)
	wantSame(t, d, s, api.OK, func() api.Errno { return s.Write([]api.Record{}) })
	must(t, d.Fail(0, nil))
	wantNoWrite(t, d, s, api.OK)
	must(t, d.Crash(nil))
	wantNoWrite(t, d, s, api.OK)
	must(t, d.Start())
	wantNoWrite(t, d, s, api.OK)
	want(t, s, h)
}

// P16.2: records of each kind, one by one, by twos, and all at once.
func TestWrite(t *testing.T) {
	for _, n := range []int{1, 2, 3, len(some())} {
		d := newDisk(t, roomy)
		s, h := wantOpen(t, d, hand{}), hand{}
		for l := range slices.Chunk(some(), n) {
			h = wantWrite(t, s, h, l...)
		}
		if !slices.Equal(payloadsOf(t, d), bytesOf(t, some()...)) {
			t.Errorf("the log is %q", payloadsOf(t, d))
		}
		h.dirty, h.sure = false, len(h.feed)
		wantOpen(t, d, h)
	}
}

// P16.2: a Write is one change of the disk, however many records it has; behind a full segment there is one more sync.
func TestChangesOfWrite(t *testing.T) {
	for n := 1; n <= len(some()); n++ {
		d := newDisk(t, roomy)
		s := wantOpen(t, d, hand{})
		must(t, d.Fail(1, nil))
		h := wantWrite(t, s, hand{}, some()[:n]...)
		wantErr(t, d.Append("t", ""), api.ErrDown)
		want(t, s, h)
	}
}

// P16.2: a RecBase or a RecFeed is ErrArg, wherever it stands, and if it might come behind the store, too.
func TestWriteOfBases(t *testing.T) {
	for _, bad := range []api.Record{base(2, 1, 1, 0), base(2, 0, 0, 0), base(2, 1, 1, 1, entry(2, 1, 1)), feed(), feed(0, 0), feed(2, 0)} {
		d := newDisk(t, roomy)
		s := wantOpen(t, d, hand{})
		wantNoWrite(t, d, s, api.ErrArg, bad)
		for at := range len(some()) + 1 {
			wantNoWrite(t, d, s, api.ErrArg, slices.Insert(some(), at, bad)...)
		}
		h := wantWrite(t, s, hand{}, promise(0, 1))
		wantNoWrite(t, d, s, api.ErrArg, bad)
		wantNoWrite(t, d, s, api.ErrArg, view(0, 1, 0, entry(0, 1, 1)), commit(0, 1), bad)
		wantWrite(t, s, h, promise(2, 1))
		d, s, _ = someStore(t)
		wantNoWrite(t, d, s, api.ErrArg, bad)
	}
}

// P16.2: records of streams that are none.
func TestWriteOfStreams(t *testing.T) {
	kinds := func(stream int) []api.Record {
		return []api.Record{promise(stream, 1), view(stream, 1, 0), view(stream, 1, 0, entry(stream, 1, 1)), commit(stream, 1), commit(stream, 0)}
	}
	d, s, _ := someStore(t)
	for _, stream := range append([]int{-1, -2, 4, 5, 1 << 32}, ends...) {
		for _, bad := range kinds(stream) {
			wantNoWrite(t, d, s, api.ErrArg, bad)
			wantNoWrite(t, d, s, api.ErrArg, promise(0, 99), bad)
		}
	}
	for stream := range streams {
		e := newDisk(t, roomy)
		wantWrite(t, wantOpen(t, e, hand{}), hand{}, promise(stream, 1), view(stream, 1, 0, entry(stream, 1, 1)), commit(stream, 1))
	}
}

// P16.2: records that may come only behind those ahead of them in the same list.
func TestWriteInOrder(t *testing.T) {
	l := []api.Record{promise(1, 1), view(1, 1, 0, entry(1, 1, 1)), view(1, 1, 1, entry(1, 1, 2)), commit(1, 1), commit(1, 2), view(1, 3, 0, entries(1, 1, 2)...), promise(1, 4)}
	none := 0
	for i := range len(l) {
		for k := i; k < len(l); k++ {
			d := newDisk(t, roomy)
			s := wantOpen(t, d, hand{})
			twisted := slices.Clone(l)
			twisted[i], twisted[k] = l[k], l[i]
			if _, ok := (hand{}).written(twisted...); !ok {
				wantNoWrite(t, d, s, api.ErrArg, twisted...)
				none++
			} else {
				wantWrite(t, s, hand{}, twisted...)
			}
		}
	}
	if none < 18 {
		t.Errorf("%d alone may not come", none)
	}
}

// badWrites are records that may not come behind some.
func badWrites() []api.Record {
	l := []api.Record{
		{}, {Kind: 6}, {Kind: -1}, promise(0, 4), promise(0, 3), promise(0, 0), promise(0, -1), promise(2, mostEpoch+1), promise(1, 5), {Kind: 1, Epoch: 9, From: 1}, {Kind: 1, Epoch: 9, View: 1}, {Kind: 1, Epoch: 9, Length: 1}, {Kind: 1, Epoch: 9, Entries: entries(0, 1, 1)}, {Kind: 1, Epoch: 9, Feed: spots(0, 0)},
		view(0, 3, 0, entries(0, 1, 3)...), view(0, 4, 0, entries(0, 1, 2)...), view(0, 4, 3, entries(0, 4, 1)...), view(3, 7, 2, entries(3, 7, 1)...), view(3, 7, 3, entries(2, 7, 1)...), view(3, 7, 3, entries(3, 8, 1)...), view(3, 7, 3, entries(3, 6, 1)...), view(3, 8, 0, entries(3, 7, 1)...),
		view(2, mostEpoch, 0, entries(2, 1, 65)...), view(2, mostEpoch, 0, entries(2, 1, 10000)...), view(3, 7, 3, entries(3, 7, 62)...), view(3, 7, 3, entry(3, 7, 0)), view(3, 7, 3, entry(3, 7, 1<<31)), {Kind: 2, Stream: 3, Epoch: 7, From: 3, Length: 1}, {Kind: 2, Stream: 3, Epoch: 7, From: 3, View: 7}, {Kind: 2, Stream: 3, Epoch: 7, From: 3, Feed: spots(3, 0)},
		commit(0, 3), commit(0, 4), commit(3, 2), commit(3, 4), commit(2, 1), commit(1, 0), commit(3, 65), {Kind: 3, Stream: 3, Length: 3, Epoch: 7}, {Kind: 3, Stream: 3, Length: 3, From: 3}, {Kind: 3, Stream: 3, Length: 3, View: 7}, {Kind: 3, Stream: 3, Length: 3, Entries: entries(3, 7, 1)}, {Kind: 3, Stream: 3, Length: 3, Feed: spots(3, 2)},
		base(1, 9, 9, 0), feed(), feed(0, 0),
	}
	for _, n := range ends {
		l = append(l, api.Record{Kind: n}, promise(0, n), view(0, n, 0), view(3, 7, n, entry(3, 7, 1)), commit(3, n), view(3, 7, 3, entry(3, n, 1)), view(3, 7, 3, entry(3, 7, n)), view(3, 7, 3, entry(n, 7, 1)))
	}
	return l
}

// P16.2: a record that may not come, behind many that may: all is as it was, and what may come, may come yet.
func TestWriteOfNoRecords(t *testing.T) {
	d, s, h := someStore(t)
	good := []api.Record{promise(0, 9), view(0, 9, 0, append(entries(0, 1, 2), entry(0, 2, 9), entry(0, 9, 3))...), commit(0, 4)}
	for _, bad := range badWrites() {
		wantNoWrite(t, d, s, api.ErrArg, bad)
		wantNoWrite(t, d, s, api.ErrArg, append(slices.Clone(good), bad)...)
		wantNoWrite(t, d, s, api.ErrArg, append([]api.Record{bad}, good...)...)
	}
	wantNoWrite(t, d, s, api.ErrArg, append(slices.Repeat(good, 1), good...)...)
	wantWrite(t, s, h, good...)
	empty := wantOpen(t, newDisk(t, roomy), hand{})
	for n := range 64 {
		l := []api.Record{view(0, 1, 0, entries(0, 1, n)...), commit(0, n+1)}
		wantErr(t, empty.Write(l), api.ErrArg)
		want(t, empty, hand{})
	}
}

// P16.2: the longest records: each is fewer bytes than a payload may have.
func TestWriteOfLongRecords(t *testing.T) {
	long := func(stream int) []api.Entry {
		l := entries(stream, mostEpoch, 64)
		for i := range l {
			l[i].Order = api.Order{ID: 1<<31 - 1 - i, Stream: stream, Expect: 1<<31 - 1, Kind: 4, Arg: -1 << 20}
		}
		return l
	}
	d := newDisk(t, roomy)
	s, h := wantOpen(t, d, hand{}), hand{}
	for stream := range streams {
		h = wantWrite(t, s, h, view(stream, mostEpoch, 0, long(stream)...))
		h = wantWrite(t, s, h, commit(stream, 64))
	}
	wantOpen(t, d, h.synced())
}

// P16.2: a disk without room tells ErrFull: all is as it was, and what has room is written yet.
func TestWriteWithoutRoom(t *testing.T) {
	one := len(bytesOf(t, promise(0, 1))[0]) + 5
	for room := range 3 * one {
		d := newDisk(t, room+1)
		s, h := wantOpen(t, d, hand{}), hand{}
		for i := range 3 {
			if (i+1)*one <= room+1 {
				h = wantWrite(t, s, h, promise(i, 1))
			} else {
				wantNoWrite(t, d, s, api.ErrFull, promise(i, 1))
			}
		}
		wantNoWrite(t, d, s, api.ErrFull, promise(0, 2), promise(1, 2), promise(2, 2), promise(3, 2))
		wantOpen(t, d, h.synced())
	}
	d := newDisk(t, 6*one)
	s := wantOpen(t, d, hand{})
	h := wantWrite(t, s, hand{}, promise(0, 1), promise(1, 1))
	wantNoWrite(t, d, s, api.ErrFull, view(0, 1, 0, entries(0, 1, 9)...), commit(0, 9))
	h = wantWrite(t, s, h, promise(0, 2))
	wantOpen(t, d, h.synced())
}

// P16.2: where the wal can't go on to a new file, that is ErrFull; a checkpoint makes room.
func TestWriteWithoutFiles(t *testing.T) {
	d := newDisk(t, roomy)
	s, h := wantOpen(t, d, hand{}), hand{}
	writes := 0
	for epoch := 1; ; epoch++ {
		l := []api.Record{view(0, epoch, 0, entries(0, 1, 64)...)}
		err := s.Write(l)
		if err == api.ErrFull {
			break
		}
		must(t, err)
		h, _ = h.written(l...)
		writes++
	}
	want(t, s, h)
	if len(d.Names()) != 15 || writes < 200 {
		t.Errorf("%d files, %d writes", len(d.Names()), writes)
	}
	wantNoWrite(t, d, s, api.ErrFull, promise(1, 1))
	must(t, s.Checkpoint())
	h = wantWrite(t, s, h.synced(), promise(1, 1))
	wantOpen(t, d, h.synced())
}

// P16.2: a disk that is down, or was started since, tells ErrDown; a record that may not come is told ahead of that.
func TestWriteOnDiskThatIsDown(t *testing.T) {
	d, s, h := someStore(t)
	must(t, d.Crash(nil))
	for range 2 {
		wantNoWrite(t, d, s, api.ErrDown, promise(0, 9))
		wantNoWrite(t, d, s, api.ErrArg, commit(0, 9))
		wantNoWrite(t, d, s, api.ErrArg, promise(0, 9), feed())
		d.Start()
	}
	wantWrite(t, wantOpen(t, d, h), h, promise(0, 9))
}

// P16.2: a disk that fails in a Write: the store is as it was, and what the disk has is some of the first records.
func TestWriteOnDiskThatFails(t *testing.T) {
	l := []api.Record{promise(0, 9), promise(1, 9), promise(3, 9)}
	const frame = 13 // bytes of each
	for keep := range 3*frame + 2 {
		d, s, h := someStore(t)
		must(t, d.Fail(0, []int{keep}))
		wantErr(t, s.Write(l), api.ErrDown)
		want(t, s, h)
		wantErr(t, s.Write(l), api.ErrDown)
		must(t, d.Start())
		wantErr(t, s.Write(l), api.ErrDown)
		want(t, s, h)
		whole := min(3, keep/frame)
		next, ok := h.written(l[:whole]...)
		if !ok {
			t.Fatal("by hand these may not come")
		}
		wantOpen(t, d, next.synced())
	}
}

// P16.2: one store's records stand behind another's of the same disk.
func TestWriteOfTwoStores(t *testing.T) {
	d := newDisk(t, roomy)
	a, b := wantOpen(t, d, hand{}), wantOpen(t, d, hand{})
	must(t, a.Write([]api.Record{promise(0, 1)}))
	must(t, b.Write([]api.Record{promise(1, 2)}))
	h, _ := opened(promise(0, 1), promise(1, 2))
	wantOpen(t, d, h)
}

// P16.2: what is handed in stays as it is, and is not kept.
func TestWriteKeepsNothing(t *testing.T) {
	d := newDisk(t, roomy)
	s := wantOpen(t, d, hand{})
	room := slices.Repeat([]api.Entry{entry(0, 77, 77)}, 9)
	copy(room[2:], entries(0, 1, 3))
	l := make([]api.Record, 3, 8)
	l[0], l[1], l[2] = promise(0, 1), view(0, 1, 0, room[2:5]...), commit(0, 2)
	l[1].Entries = room[2:5]
	was := slices.Clone(room)
	must(t, s.Write(l))
	h, _ := hand{}.written(promise(0, 1), view(0, 1, 0, entries(0, 1, 3)...), commit(0, 2))
	want(t, s, h)
	if !isSameEntries(room, was) || len(l) != 3 || l[0].Epoch != 1 || l[2].Length != 2 || l[:4][3].Kind != 0 {
		t.Error("what was handed in was changed")
	}
	for i := range room {
		room[i] = entry(3, 9, 9)
	}
	l[0].Epoch, l[1].From, l[2].Length = 9, 9, 9
	want(t, s, h)
	more := []api.Entry{entry(0, 1, 4), entry(0, 1, 5)}
	h = wantWrite(t, s, h, view(0, 1, 3, more[:1]...), commit(0, 4))
	more[0], more[1] = entry(0, 1, 8), entry(0, 1, 8)
	want(t, s, h)
	must(t, s.Checkpoint())
	wantOpen(t, d, h.synced())
}

// P16.2: writes at random: of many records, that may come or not.
func TestRandomWrites(t *testing.T) {
	r := rand.New(rand.NewSource(2))
	count := map[api.Errno]int{}
	for range 60 {
		d := newDisk(t, []int{400, 3000, roomy}[r.Intn(3)])
		s, h := wantOpen(t, d, hand{}), hand{}
		var log []string
		for range 40 {
			next := h
			var l []api.Record
			for range r.Intn(5) {
				x := randomWrite(r, next)
				if behind, ok := next.written(x); ok {
					next = behind
				} else if r.Intn(6) > 0 {
					continue
				}
				l = append(l, x)
			}
			next, ok := h.written(l...)
			before := image(d)
			err := s.Write(l)
			count[err]++
			switch {
			case !ok:
				wantErr(t, err, api.ErrArg)
			case err == api.ErrFull && d.Size() > 100:
			default:
				must(t, err)
				h = next
				log = append(log, bytesOf(t, l...)...)
			}
			if err != api.OK && image(d) != before {
				t.Fatal("the disk was changed")
			}
			want(t, s, h)
		}
		_, payloads, err := wal.Open(d)
		if err != api.OK || !slices.Equal(payloads, log) {
			t.Fatalf("the log is %q, %d, want %q", payloads, err, log)
		}
	}
	if count[api.OK] < 500 || count[api.ErrArg] < 200 || count[api.ErrFull] < 100 {
		t.Errorf("too few: %v", count)
	}
}
