package store

import (
	"fmt"
	"math"
	"math/rand"
	"slices"
	"strings"
	"testing"

	"archipelago/api"
	"archipelago/disk"
	"archipelago/records"
	"archipelago/register"
	"archipelago/wal"
)

// What the chapters name by number.
const (
	roomy     = 1048576 // a capacity at which nothing is full
	mostEpoch = 1048576
	streams   = 4
)

// ends are ints at which all things end.
var ends = []int{math.MinInt, math.MinInt + 1, math.MaxInt - 1, math.MaxInt}

func entry(stream, epoch, id int) api.Entry {
	return api.Entry{Epoch: epoch, Order: api.Order{ID: id, Stream: stream, Expect: -1, Kind: 2, Arg: 5}}
}

// entries are so many of one epoch, with IDs from 1 on.
func entries(stream, epoch, length int) []api.Entry {
	var l []api.Entry
	for i := range length {
		l = append(l, entry(stream, epoch, 1+i))
	}
	return l
}

func promise(stream, epoch int) api.Record {
	return api.Record{Kind: 1, Stream: stream, Epoch: epoch}
}

func view(stream, epoch, from int, l ...api.Entry) api.Record {
	return api.Record{Kind: 2, Stream: stream, Epoch: epoch, From: from, Entries: l}
}

func commit(stream, length int) api.Record {
	return api.Record{Kind: 3, Stream: stream, Length: length}
}

func base(stream, promised, view, length int, l ...api.Entry) api.Record {
	return api.Record{Kind: 4, Stream: stream, Epoch: promised, View: view, Length: length, Entries: l}
}

// feed is a RecFeed of places that are told by numbers: a stream and an index each.
func feed(numbers ...int) api.Record {
	return api.Record{Kind: 5, Feed: spots(numbers...)}
}

func spots(numbers ...int) []api.Spot {
	var l []api.Spot
	for i := 0; i < len(numbers); i += 2 {
		l = append(l, api.Spot{Stream: numbers[i], Index: numbers[i+1]})
	}
	return l
}

// hand is a store by the chapter's words.
type hand struct {
	registers [streams]api.Register
	feed      []api.Spot
	sure      int
	dirty     bool
}

func (h hand) String() string {
	return fmt.Sprint(h.registers, h.feed, h.sure, h.dirty)
}

// committed tells whether the list has just the places that the registers have committed, each stream's in order.
func (h hand) committed(l []api.Spot) bool {
	all := 0
	for stream, r := range h.registers {
		own := slices.DeleteFunc(slices.Clone(l), func(x api.Spot) bool { return x.Stream != stream })
		for i := range own {
			if own[i].Index != i {
				return false
			}
		}
		if len(own) != r.Commit {
			return false
		}
		all += len(own)
	}
	return all == len(l)
}

// lay lays a record behind the store, as far as that may come there.
func (h hand) lay(x api.Record) (hand, bool) {
	if records.Check(x) != api.OK {
		return h, false
	}
	if x.Kind == 5 {
		ok := len(h.feed) == 0 && h.committed(x.Feed)
		if ok {
			h.feed = slices.Clone(x.Feed)
		}
		return h, ok
	}
	old := h.registers[x.Stream]
	next, ok := register.Apply(old, x)
	if !ok {
		return h, false
	}
	h.registers[x.Stream] = next
	if x.Kind == 3 {
		h.feed = slices.Clone(h.feed)
		for i := old.Commit; i < x.Length; i++ {
			h.feed = append(h.feed, api.Spot{Stream: x.Stream, Index: i})
		}
	}
	return h, true
}

// opened is what Open tells of a log of these records.
func opened(l ...api.Record) (h hand, ok bool) {
	for _, x := range l {
		if h, ok = h.lay(x); !ok {
			return hand{}, false
		}
	}
	h.sure = len(h.feed)
	return h, h.committed(h.feed)
}

// written is the store behind a Write of these records, if that is to be OK.
func (h hand) written(l ...api.Record) (hand, bool) {
	next := h
	for _, x := range l {
		ok := x.Kind != 4 && x.Kind != 5
		if ok {
			next, ok = next.lay(x)
		}
		if !ok {
			return h, false
		}
	}
	next.dirty = next.dirty || len(l) > 0
	return next, true
}

// synced is the store behind a sync.
func (h hand) synced() hand {
	h.sure, h.dirty = len(h.feed), false
	return h
}

// bases are the records of a checkpoint.
func (h hand) bases() []api.Record {
	var l []api.Record
	for stream, r := range h.registers {
		if r.Promised != 0 {
			l = append(l, base(stream, r.Promised, r.View, r.Commit, r.Log...))
		}
	}
	if len(h.feed) > 0 {
		l = append(l, api.Record{Kind: 5, Feed: h.feed})
	}
	return l
}

// bytesOf are the records' bytes, all of which may be.
func bytesOf(t *testing.T, l ...api.Record) []string {
	t.Helper()
	var payloads []string
	for _, x := range l {
		s, err := records.Encode(x)
		must(t, err)
		payloads = append(payloads, s)
	}
	return payloads
}

// bytesIfAny are the record's bytes, if it may be.
func bytesIfAny(x api.Record) (s string, ok bool) {
	s, err := records.Encode(x)
	return s, err == api.OK
}

func newDisk(t *testing.T, capacity int) *disk.Disk {
	t.Helper()
	d, err := disk.New(capacity)
	must(t, err)
	return d
}

// withLog is a disk that has a log of these payloads, all synced.
func withLog(t *testing.T, payloads ...string) *disk.Disk {
	t.Helper()
	d := newDisk(t, roomy)
	w, _, err := wal.Open(d)
	must(t, err)
	must(t, w.Append(payloads))
	must(t, w.Sync())
	return d
}

// withFile is a disk with a file more, all of it synced.
func withFile(t *testing.T, d *disk.Disk, name, bytes string) *disk.Disk {
	t.Helper()
	must(t, d.Append(name, bytes))
	must(t, d.Sync(name))
	return d
}

// payloadsOf are what wal tells of the disk's log.
func payloadsOf(t *testing.T, d *disk.Disk) []string {
	t.Helper()
	_, payloads, err := wal.Open(d)
	must(t, err)
	return payloads
}

// image is all that can be asked of a disk.
func image(d *disk.Disk) string {
	var b strings.Builder
	for _, name := range d.Names() {
		s, err := d.Read(name)
		fmt.Fprintf(&b, "%q %q %d\n", name, s, err)
	}
	fmt.Fprint(&b, d.Size(), d.Unsynced(), d.Up(), d.Starts())
	return b.String()
}

// crash crashes the disk, so many bytes of each file being kept, and starts it.
func crash(t *testing.T, d *disk.Disk, keep int) {
	t.Helper()
	must(t, d.Crash(slices.Repeat([]int{keep}, 16)))
	must(t, d.Start())
}

func must(t *testing.T, err api.Errno) {
	t.Helper()
	wantErr(t, err, api.OK)
}

func wantErr(t *testing.T, err, want api.Errno) {
	t.Helper()
	if err != want {
		t.Fatalf("error %d, want %d", err, want)
	}
}

func isSameEntries(a, b []api.Entry) bool {
	return slices.EqualFunc(a, b, func(x, y api.Entry) bool { return fmt.Sprint(x) == fmt.Sprint(y) })
}

func isSameRegister(a, b api.Register) bool {
	return a.Promised == b.Promised && a.View == b.View && a.Commit == b.Commit && isSameEntries(a.Log, b.Log)
}

// isSame tells whether the store is told with just what the other one has.
func isSame(s *Store, h hand) bool {
	for stream, want := range h.registers {
		r, err := s.Register(stream)
		if err != api.OK || !isSameRegister(r, want) {
			return false
		}
	}
	l, sure := s.Feed()
	return slices.Equal(l, h.feed) && sure == h.sure && s.Dirty() == h.dirty
}

// told is all that the store tells.
func told(s *Store) (h hand) {
	for stream := range streams {
		h.registers[stream], _ = s.Register(stream)
	}
	h.feed, h.sure = s.Feed()
	h.dirty = s.Dirty()
	return h
}

// want wants the store to be that one.
func want(t *testing.T, s *Store, h hand) {
	t.Helper()
	if !isSame(s, h) {
		t.Fatalf("the store is %v, want %v", told(s), h)
	}
}

// wantOpen wants just that of Open, and tells the store.
func wantOpen(t *testing.T, d *disk.Disk, h hand) *Store {
	t.Helper()
	s, err := Open(d)
	if err != api.OK || s == nil {
		t.Fatalf("Open = %v, %d", s, err)
	}
	want(t, s, h)
	return s
}

// wantNoOpen wants that error of Open, and no store.
func wantNoOpen(t *testing.T, d *disk.Disk, err api.Errno) {
	t.Helper()
	if s, got := Open(d); s != nil || got != err {
		t.Fatalf("Open = %v, %d, want none, %d", s, got, err)
	}
}

// wantSame wants that of a call, and the disk and the store to be as they were.
func wantSame(t *testing.T, d *disk.Disk, s *Store, err api.Errno, call func() api.Errno) {
	t.Helper()
	before, was := image(d), told(s)
	if got := call(); got != err {
		t.Fatalf("error %d, want %d", got, err)
	}
	if image(d) != before {
		t.Fatal("the disk was changed")
	}
	want(t, s, was)
}

// wantNoWrite wants that error of a Write, and all to be as it was.
func wantNoWrite(t *testing.T, d *disk.Disk, s *Store, err api.Errno, l ...api.Record) {
	t.Helper()
	wantSame(t, d, s, err, func() api.Errno { return s.Write(l) })
}

// wantWrite wants a Write to be OK, and the store to be what it is by hand then; it tells that.
func wantWrite(t *testing.T, s *Store, h hand, l ...api.Record) hand {
	t.Helper()
	next, ok := h.written(l...)
	if !ok {
		t.Fatal("by hand these may not come: ", l)
	}
	must(t, s.Write(l))
	want(t, s, next)
	return next
}

// some are records of all that may be written, which lead to four registers and a feed that goes from one to another.
func some() []api.Record {
	return []api.Record{
		promise(0, 1), view(0, 1, 0, entries(0, 1, 2)...), commit(0, 2), promise(3, 7), view(3, 7, 0, entries(3, 7, 3)...), commit(3, 1),
		view(0, 2, 0, append(entries(0, 1, 2), entry(0, 2, 9))...), commit(0, 3), commit(3, 2), view(1, 5, 0, entry(1, 5, 4)), promise(2, mostEpoch), commit(1, 1), promise(0, 4),
	}
}

// someHand is the store behind some, all sure.
func someHand(t *testing.T) hand {
	t.Helper()
	h, ok := opened(some()...)
	if !ok {
		t.Fatal("by hand these may not come")
	}
	return h
}

// someStore is that store on a disk, all sure.
func someStore(t *testing.T) (*disk.Disk, *Store, hand) {
	t.Helper()
	d := withLog(t, bytesOf(t, some()...)...)
	h := someHand(t)
	return d, wantOpen(t, d, h), h
}

// near is that number, or seldom one that is not far from it, or any other.
func near(r *rand.Rand, n int) int {
	switch r.Intn(24) {
	case 0:
		return n - 1
	case 1:
		return n + 1
	case 2:
		return int(r.Uint64()) >> r.Intn(64)
	}
	return n
}

// randomWrite is a record that mostly may be written behind that store.
func randomWrite(r *rand.Rand, h hand) api.Record {
	stream := near(r, r.Intn(streams))
	var g api.Register
	if stream >= 0 && stream < streams {
		g = h.registers[stream]
	}
	switch r.Intn(7) {
	case 0:
		return promise(stream, near(r, g.Promised+1+r.Intn(3)))
	case 1, 2:
		return commit(stream, near(r, min(len(g.Log), g.Commit+1+r.Intn(3))))
	case 3, 4:
		epoch := near(r, max(1, g.Promised))
		if epoch > g.View {
			return view(stream, epoch, 0, append(slices.Clone(g.Log[:g.Commit]), entry(stream, max(1, g.View), 1+r.Intn(99)))...)
		}
		return view(stream, epoch, near(r, len(g.Log)), entries(near(r, stream), epoch, r.Intn(4))...)
	case 5:
		epoch := near(r, g.Promised+1)
		if r.Intn(2) == 0 {
			return view(stream, epoch, near(r, 0), g.Log...)
		}
		return view(stream, epoch, near(r, 0), append(slices.Clone(g.Log[:r.Intn(len(g.Log)+1)]), entries(stream, epoch, r.Intn(3))...)...)
	}
	return []api.Record{base(stream, 3, 3, 0), feed(), {}, {Kind: r.Intn(9), Stream: stream, Epoch: r.Intn(9), Length: r.Intn(3)}}[r.Intn(4)]
}
