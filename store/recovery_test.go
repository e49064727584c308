package store

import (
	"math/rand"
	"slices"
	"testing"

	"archipelago/api"
	"archipelago/disk"
)

// past is what P16.5 speaks of: the store behind all records that are sure, and the others, in order.
type past struct {
	sure  hand
	later []api.Record
}

// act is one thing that is done with a store: a write of records, a sync, a checkpoint, or opening it anew.
type act struct {
	kind    string
	records []api.Record
}

// play does it, and keeps the past; it tells whether the disk failed.
func (p *past) play(t *testing.T, s *Store, a act) (failed bool) {
	t.Helper()
	before, _ := s.Feed()
	was := told(s)
	var err api.Errno
	switch a.kind {
	case "write":
		err = s.Write(a.records)
		if err == api.OK || err == api.ErrDown {
			p.later = append(p.later, a.records...)
		}
	case "sync":
		err = s.Sync()
	case "checkpoint":
		err = s.Checkpoint()
	}
	if err != api.OK && err != api.ErrDown && err != api.ErrFull {
		t.Fatalf("%s = %d", a.kind, err)
	}
	if a.kind != "write" && !s.Dirty() { // also if the checkpoint behind the sync failed
		p.sure, p.later = told(s), nil
	}
	l, sure := s.Feed()
	if len(l) < len(before) || !slices.Equal(l[:len(before)], before) || sure < was.sure || sure > len(l) {
		t.Fatalf("the feed was %v, %d, and is %v, %d", before, was.sure, l, sure)
	}
	return err == api.ErrDown
}

// recover opens the store of a disk that was started, wants what the past allows, and goes on from there. It tells how
// many of the records that were not sure are there.
func (p *past) recover(t *testing.T, d *disk.Disk) (*Store, int) {
	t.Helper()
	s, err := Open(d)
	must(t, err)
	n := wantSomeOf(t, s, p.sure, p.later)
	l, _ := s.Feed()
	if len(l) < p.sure.sure || !slices.Equal(l[:p.sure.sure], p.sure.feed[:p.sure.sure]) {
		t.Fatalf("the feed is %v, and %v was sure", l, p.sure.feed)
	}
	*p = past{sure: told(s)}
	return s, n
}

// script has an act of each kind, with what is sure and what is not, and new segments.
func script() []act {
	l := some()
	acts := []act{
		{"write", l[:1]}, {"sync", nil}, {"write", l[1:4]}, {"write", l[4:6]}, {"sync", nil}, {"write", l[6:7]},
		{"checkpoint", nil}, {"write", l[7:9]}, {"sync", nil}, {"checkpoint", nil}, {"checkpoint", nil}, {"write", l[9:]},
	}
	var big []api.Record // more than a segment has
	for epoch := 10; epoch < 40; epoch++ {
		big = append(big, view(3, epoch, 0, append(entries(3, 7, 3), entries(3, epoch, 60)...)...), promise(0, epoch))
	}
	return append(acts,
		act{"write", big}, act{"write", []api.Record{promise(1, 40)}}, act{"sync", nil}, act{"write", []api.Record{promise(1, 41), promise(1, 42)}},
		act{"checkpoint", nil}, act{"write", []api.Record{commit(3, 40)}}, act{"sync", nil}, act{"write", []api.Record{promise(3, 50)}})
}

// P16.5: a failure at each change of a script, with so many bytes of each file kept.
func TestFailureAtEachChange(t *testing.T) {
	failures := 0
	for n, more := 0, true; more; n++ {
		more = false
		for _, keep := range []int{-1, 0, 1, 12, 13, 14, 26, 27, 60, 100, 3000, roomy} {
			d := newDisk(t, roomy)
			p := &past{}
			s := wantOpen(t, d, hand{})
			must(t, d.Fail(n, slices.Repeat([]int{keep}, 16)))
			for _, a := range script() {
				if p.play(t, s, a) {
					more = true
					failures++
					break
				}
			}
			if more {
				must(t, d.Start())
				p.recover(t, d)
			}
		}
	}
	if failures < 20*12 {
		t.Errorf("%d failures only", failures)
	}
}

// P16.5: a crash behind each act of the script, with any number of bytes kept; some of the records that were not sure are
// there then, each whole, and behind a second crash all is as it was found.
func TestCrashBehindEachAct(t *testing.T) {
	found := map[int]int{}
	for n := range script() {
		for keep := range 60 {
			d := newDisk(t, roomy)
			p := &past{}
			s := wantOpen(t, d, hand{})
			for _, a := range script()[:n+1] {
				if p.play(t, s, a) {
					t.Fatal("the disk failed")
				}
			}
			crash(t, d, keep)
			s, k := p.recover(t, d)
			found[k]++
			h := told(s)
			crash(t, d, 0)
			wantOpen(t, d, h)
		}
	}
	if found[0] == 0 || found[1] == 0 || found[2] == 0 || found[3] == 0 {
		t.Errorf("so often that many of the records that were not sure: %v", found)
	}
}

// P16.5: what of a Write's records was not sure is kept as far as the bytes go, none in part, whatever was written ahead.
func TestCrashInRecords(t *testing.T) {
	l := []api.Record{promise(3, 8), view(3, 9, 0, entries(3, 7, 2)...), promise(0, 9), promise(1, 9)}
	var sizes []int
	for _, s := range bytesOf(t, l...) {
		sizes = append(sizes, len(s)+5)
	}
	all := 0
	for _, n := range sizes {
		all += n
	}
	for keep := range all + 2 {
		d, s, h := someStore(t)
		wantWrite(t, s, h, l...)
		crash(t, d, keep)
		whole, left := 0, keep
		for whole < len(l) && left >= sizes[whole] {
			left -= sizes[whole]
			whole++
		}
		next, _ := h.written(l[:whole]...)
		wantOpen(t, d, next.synced())
	}
}

// P16.5: acts at random, with crashes, failures, and disks of any room.
func TestRandomScripts(t *testing.T) {
	starts, kept, lost, feeds := 0, 0, 0, 0
	for seed := range 120 {
		r := rand.New(rand.NewSource(int64(seed)))
		d := newDisk(t, []int{600, 4000, roomy}[r.Intn(3)])
		p := &past{}
		s := wantOpen(t, d, hand{})
		for range 150 {
			a := act{"write", randomRecords(r, told(s))}
			failed := false
			switch k := r.Intn(24); {
			case k < 3:
				a.kind = "sync"
			case k < 5:
				a.kind = "checkpoint"
			case k < 7:
				must(t, d.Fail(r.Intn(7), keeps(r)))
			case k < 9:
				must(t, d.Crash(keeps(r)))
				a, failed = act{"write", nil}, true
			}
			if failed = p.play(t, s, a) || failed; failed {
				must(t, d.Start())
				later, n := len(p.later), 0
				s, n = p.recover(t, d)
				starts++
				kept += n
				lost += later - n
			}
			if t.Failed() {
				t.Fatalf("seed %d", seed)
			}
		}
		feeds += len(told(s).feed)
	}
	if starts < 1000 || kept < 300 || lost < 300 || feeds < 300 {
		t.Errorf("too few: %d starts, %d kept, %d lost, feeds of %d", starts, kept, lost, feeds)
	}
}

// randomRecords are some that may be written behind that store.
func randomRecords(r *rand.Rand, h hand) []api.Record {
	var l []api.Record
	for range r.Intn(6) {
		x := randomWrite(r, h)
		if next, ok := h.written(x); ok {
			h, l = next, append(l, x)
		}
	}
	return l
}

func keeps(r *rand.Rand) []int {
	l := make([]int, r.Intn(17))
	for i := range l {
		l[i] = r.Intn(12) * r.Intn(1+r.Intn(60))
	}
	return l
}
