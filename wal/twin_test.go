package wal

import (
	"fmt"
	"math/rand"
	"regexp"
	"slices"
	"strconv"
	"testing"

	"archipelago/api"
	"archipelago/disk"
	"archipelago/frames"
)

// twin is a log by the chapter's words alone, without the package, on a disk of its own.
type twin struct {
	disk   *disk.Disk
	starts int
	over   bool
}

var fileOfLog = regexp.MustCompile(`\A(?:t|[cs]([1-9][0-9]{0,8}))\z`)

func numberOf(name string) int {
	n, _ := strconv.Atoi(fileOfLog.FindStringSubmatch(name)[1])
	return n
}

func (w *twin) base() int {
	base := 0
	for n := 1; n <= 60; n++ { // no test goes further with a twin
		if slices.Contains(w.disk.Names(), fmt.Sprint("c", n)) {
			base = n
		}
	}
	return base
}

// segments tells their names, and the last one's, or none.
func (w *twin) segments() (names []string, last string) {
	base := w.base()
	if base > 0 {
		names = append(names, fmt.Sprint("c", base))
	}
	for n := base + 1; slices.Contains(w.disk.Names(), fmt.Sprint("s", n)); n++ {
		last = fmt.Sprint("s", n)
		names = append(names, last)
	}
	return names, last
}

func (w *twin) greatest() int {
	names, _ := w.segments()
	if len(names) == 0 {
		return 0
	}
	return numberOf(names[len(names)-1])
}

func (w *twin) stale() []string {
	names, _ := w.segments()
	return slices.DeleteFunc(w.disk.Names(), func(name string) bool { return slices.Contains(names, name) })
}

func (w *twin) hasLog() bool {
	names, last := w.segments()
	for _, name := range w.disk.Names() {
		if !fileOfLog.MatchString(name) || name[0] == 's' && numberOf(name) > w.base() && !slices.Contains(names, name) {
			return false
		}
	}
	for _, name := range names {
		s, _ := w.disk.Read(name)
		if _, end := frames.Whole(s); name != last && end < len(s) {
			return false
		}
	}
	return true
}

func (w *twin) open() (payloads []string, err api.Errno) {
	if !w.disk.Up() {
		return nil, api.ErrDown
	}
	if !w.hasLog() {
		return nil, api.ErrBroke
	}
	for _, name := range w.stale() {
		if err := w.disk.Remove(name); err != api.OK {
			return nil, err
		}
	}
	names, _ := w.segments()
	for _, name := range names {
		s, _ := w.disk.Read(name)
		l, end := frames.Whole(s)
		payloads = append(payloads, l...)
		if end < len(s) {
			if err := w.disk.Truncate(name, end); err != api.OK {
				return nil, err
			}
		}
	}
	w.starts, w.over = w.disk.Starts(), false
	return payloads, api.OK
}

func (w *twin) isOver() bool { return w.over || !w.disk.Up() || w.starts != w.disk.Starts() }

// tell is an error that the disk told, handed on.
func (w *twin) tell(err api.Errno) api.Errno {
	if err != api.OK && err != api.ErrFull {
		w.over = true
		return api.ErrDown
	}
	return err
}

func (w *twin) append(payloads []string) api.Errno {
	switch {
	case w.isOver():
		return api.ErrDown
	case slices.ContainsFunc(payloads, func(p string) bool { return len(p) > 8192 }):
		return api.ErrLong
	case len(payloads) == 0:
		return api.OK
	}
	_, last := w.segments()
	to := last
	if s, _ := w.disk.Read(last); last == "" || len(s) >= 16384 {
		if len(w.disk.Names()) >= 15 {
			return api.ErrFull
		}
		if last != "" {
			if err := w.disk.Sync(last); err != api.OK {
				return w.tell(err)
			}
		}
		to = fmt.Sprint("s", w.greatest()+1)
	}
	return w.tell(w.disk.Append(to, framesOf(payloads...)))
}

func (w *twin) sync() api.Errno {
	if w.isOver() {
		return api.ErrDown
	}
	if _, last := w.segments(); last != "" {
		return w.tell(w.disk.Sync(last))
	}
	return api.OK
}

func (w *twin) checkpoint(payloads []string) api.Errno {
	if w.isOver() {
		return api.ErrDown
	}
	if slices.ContainsFunc(payloads, func(p string) bool { return len(p) > 8192 }) {
		return api.ErrLong
	}
	to := fmt.Sprint("c", w.greatest()+1)
	if err := w.disk.Append("t", framesOf(payloads...)); err != api.OK {
		return w.tell(err)
	}
	if err := w.disk.Sync("t"); err != api.OK {
		return w.tell(err)
	}
	if err := w.disk.Rename("t", to); err != api.OK {
		return w.tell(err)
	}
	for _, name := range w.stale() {
		if err := w.disk.Remove(name); err != api.OK {
			return w.tell(err)
		}
	}
	return api.OK
}

func (w *twin) told() (segments, size int) {
	if w.isOver() {
		return 0, 0
	}
	names, _ := w.segments()
	for _, name := range names {
		s, _ := w.disk.Read(name)
		size += len(s)
	}
	return len(names), size
}

// anyFiles are files that a disk may have ahead of its first Open: often those of a log, sometimes of none.
func anyFiles(r *rand.Rand) []laid {
	var files []laid
	texts := []string{"", frameOf("a"), framesOf("b", "c"), framesOf(listTo(16384)...)}
	torn := []string{"?", frameOf("d")[:3], frameOf("e") + frameOf("f")[:5], frameOf("g")[:5] + "?"}
	base, count := r.Intn(13), r.Intn(4)
	if base > 0 {
		files = append(files, laid{fmt.Sprint("c", base), texts[r.Intn(4)]})
	}
	for n := base + 1; n <= base+count; n++ {
		files = append(files, laid{fmt.Sprint("s", n), texts[r.Intn(4)]})
	}
	if len(files) > 0 && r.Intn(2) == 0 {
		f := &files[len(files)-1]
		if r.Intn(6) == 0 {
			f = &files[r.Intn(len(files))]
		}
		f.bytes += torn[r.Intn(4)]
	}
	for n := 1; n <= base; n++ {
		if r.Intn(5) == 0 && n < base {
			files = append(files, laid{fmt.Sprint("c", n), torn[r.Intn(4)]})
		}
		if r.Intn(5) == 0 {
			files = append(files, laid{fmt.Sprint("s", n), torn[r.Intn(4)]})
		}
	}
	if r.Intn(3) == 0 {
		files = append(files, laid{"t", torn[r.Intn(4)]})
	}
	if r.Intn(8) == 0 {
		files = append(files, laid{[]string{"q", "t1", "s01", fmt.Sprint("s", base+count+2)}[r.Intn(4)], ""})
	}
	return files
}

// twins are a log and its twin, on disks to which the same is done.
type twins struct {
	wal  *Wal
	mine *disk.Disk
	twin *twin
}

// both does the same to both disks.
func (x *twins) both(t *testing.T, what func(d *disk.Disk) api.Errno) {
	t.Helper()
	if got, want := what(x.mine), what(x.twin.disk); got != want {
		t.Errorf("error %d, want %d", got, want)
	}
}

// step does the same to both, and tells both answers.
func (x *twins) step(t *testing.T, r *rand.Rand, count *int) (got, want api.Errno) {
	t.Helper()
	l := anyPayloads(r, count)
	if r.Intn(50) == 0 {
		l = append(l, string(make([]byte, 8193)))
	}
	switch k := r.Intn(30); {
	case k < 16:
		return x.wal.Append(l), x.twin.append(l)
	case k < 19:
		return x.wal.Sync(), x.twin.sync()
	case k < 21:
		return x.wal.Checkpoint(l), x.twin.checkpoint(l)
	case k < 23:
		n, keep := r.Intn(10), keeps(r)
		x.both(t, func(d *disk.Disk) api.Errno { return d.Fail(n, keep) })
	case k < 24:
		keep := keeps(r)
		x.both(t, func(d *disk.Disk) api.Errno { return d.Crash(keep) })
	case k < 26:
		x.both(t, (*disk.Disk).Start)
	default:
		w, found, err := Open(x.mine)
		other, otherErr := x.twin.open()
		if !slices.Equal(found, other) || (w == nil) != (err != api.OK) {
			t.Errorf("Open = %v, %.60q, %d, want %.60q", w, found, err, other)
		}
		if err == api.OK {
			x.wal = w
		}
		return err, otherErr
	}
	return api.OK, api.OK
}

// P5.1 to P5.4: whatever a disk has, and whatever is done, each answer and each change of the disk is what the chapter's
// words say.
func TestByTwin(t *testing.T) {
	opened := 0
	for seed := range 600 {
		r := rand.New(rand.NewSource(int64(seed)))
		files := anyFiles(r)
		capacity := []int{70000, roomy}[r.Intn(2)] + r.Intn(100)
		capacity = min(capacity, roomy)
		x := &twins{mine: with(t, capacity, files...), twin: &twin{disk: with(t, capacity, files...)}}
		w, found, err := Open(x.mine)
		other, want := x.twin.open()
		if err != want || !slices.Equal(found, other) || image(x.mine) != image(x.twin.disk) {
			t.Fatalf("seed %d: Open = %.60q, %d, want %.60q, %d", seed, found, err, other, want)
		}
		if err != api.OK {
			continue
		}
		opened++
		x.wal = w
		count := 0
		for i := range 60 {
			got, want := x.step(t, r, &count)
			segments, size := x.twin.told()
			wantTold(t, x.wal, segments, size)
			if got != want || image(x.mine) != image(x.twin.disk) || t.Failed() {
				t.Fatalf("seed %d, step %d: %d, want %d; disks %.300q, want %.300q", seed, i, got, want, image(x.mine), image(x.twin.disk))
			}
		}
	}
	if opened < 300 {
		t.Errorf("%d logs only", opened)
	}
}
