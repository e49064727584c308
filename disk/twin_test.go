package disk

import (
	"maps"
	"math/rand"
	"slices"
	"strings"
	"testing"

	"archipelago/api"
)

// twinFile is a file as two texts: what is synced, and what is not.
type twinFile struct{ sure, loose string }

// twin is a disk by the chapter's words alone, without the package: files in a map, a failure as plain fields.
type twin struct {
	capacity, starts int
	files            map[string]twinFile
	down, fails      bool
	left             int
	keep             []int
}

func (w *twin) names() []string { return slices.Sorted(maps.Keys(w.files)) }

func (w *twin) size() int {
	n := 0
	for _, f := range w.files {
		n += len(f.sure + f.loose)
	}
	return n
}

func (w *twin) crash(keep []int) {
	for i, name := range w.names() {
		f := w.files[name]
		for n := 0; i < len(keep) && n < keep[i] && f.loose != ""; n++ {
			f.sure, f.loose = f.sure+f.loose[:1], f.loose[1:]
		}
		f.loose = ""
		w.files[name] = f
	}
	w.down, w.fails = true, false
}

// change does what is OK; the failure that is set comes by it, or is a change nearer.
func (w *twin) change(isAppend bool, do func()) api.Errno {
	fail := w.fails && w.left == 0
	w.left--
	if !fail || isAppend {
		do()
	}
	if fail {
		w.crash(w.keep)
		return api.ErrDown
	}
	return api.OK
}

func (w *twin) append(name, s string) api.Errno {
	f, there := w.files[name]
	switch {
	case w.down:
		return api.ErrDown
	case name == "" || len(name) > 16:
		return api.ErrArg
	case !there && len(w.files) == 16, w.size()+len(s) > w.capacity:
		return api.ErrFull
	}
	return w.change(true, func() { w.files[name] = twinFile{f.sure, f.loose + s} })
}

func (w *twin) sync(name string) api.Errno {
	f, there := w.files[name]
	switch {
	case w.down:
		return api.ErrDown
	case !there:
		return api.ErrNone
	}
	return w.change(false, func() { w.files[name] = twinFile{f.sure + f.loose, ""} })
}

func (w *twin) truncate(name string, n int) api.Errno {
	f, there := w.files[name]
	switch {
	case w.down:
		return api.ErrDown
	case !there:
		return api.ErrNone
	case n < 0 || n > len(f.sure+f.loose):
		return api.ErrArg
	}
	return w.change(false, func() {
		if n <= len(f.sure) {
			w.files[name] = twinFile{f.sure[:n], ""}
		} else {
			w.files[name] = twinFile{f.sure, f.loose[:n-len(f.sure)]}
		}
	})
}

func (w *twin) rename(from, to string) api.Errno {
	f, there := w.files[from]
	switch {
	case w.down:
		return api.ErrDown
	case !there:
		return api.ErrNone
	case to == "" || len(to) > 16:
		return api.ErrArg
	}
	return w.change(false, func() {
		delete(w.files, from)
		w.files[to] = f
	})
}

func (w *twin) remove(name string) api.Errno {
	_, there := w.files[name]
	switch {
	case w.down:
		return api.ErrDown
	case !there:
		return api.ErrNone
	}
	return w.change(false, func() { delete(w.files, name) })
}

func (w *twin) fail(n int, keep []int) api.Errno {
	switch {
	case w.down:
		return api.ErrDown
	case n < 0:
		return api.ErrArg
	}
	w.fails, w.left, w.keep = true, n, slices.Clone(keep)
	return api.OK
}

func (w *twin) crashed(keep []int) api.Errno {
	if w.down {
		return api.ErrDown
	}
	w.crash(keep)
	return api.OK
}

func (w *twin) start() api.Errno {
	if !w.down {
		return api.ErrArg
	}
	w.down = false
	w.starts++
	return api.OK
}

// anyName is a name that is often there, seldom one, and now and then none.
func anyName(r *rand.Rand) string {
	switch r.Intn(30) {
	case 0:
		return ""
	case 1:
		return strings.Repeat("n", 17)
	case 2:
		return strings.Repeat("n", 16)
	}
	return letter(r.Intn(20))
}

func anyList(r *rand.Rand) []int {
	l := make([]int, r.Intn(20))
	for i := range l {
		l[i] = r.Intn(12) - 2
	}
	return l
}

// step does the same to both, and tells both answers.
func step(r *rand.Rand, d *Disk, w *twin) (got, want api.Errno) {
	name, other, n := anyName(r), anyName(r), r.Intn(14)-1
	s := strings.Repeat(letter(r.Intn(26)), r.Intn(9))
	switch k := r.Intn(40); {
	case k < 18:
		return d.Append(name, s), w.append(name, s)
	case k < 22:
		return d.Sync(name), w.sync(name)
	case k < 26:
		return d.Truncate(name, n), w.truncate(name, n)
	case k < 30:
		return d.Rename(name, other), w.rename(name, other)
	case k < 32:
		return d.Remove(name), w.remove(name)
	case k < 33:
		keep := anyList(r)
		return d.Crash(keep), w.crashed(keep)
	case k < 35:
		keep := anyList(r)
		return d.Fail(n, keep), w.fail(n, keep)
	}
	return d.Start(), w.start()
}

// compare holds all that the disk tells against the twin.
func compare(t *testing.T, d *Disk, w *twin) {
	t.Helper()
	wantNames(t, d, w.names()...)
	wantSize(t, d, w.size())
	var loose []int
	for _, name := range w.names() {
		f := w.files[name]
		loose = append(loose, len(f.loose))
		if w.down {
			wantNoRead(t, d, name, api.ErrDown)
		} else {
			wantRead(t, d, name, f.sure+f.loose)
		}
	}
	wantUnsynced(t, d, loose...)
	if d.Up() == w.down || d.Starts() != w.starts {
		t.Errorf("up %v, %d starts, want %v, %d", d.Up(), d.Starts(), !w.down, w.starts)
	}
}

// P4.2 to P4.6: whatever is done, one thing behind the other, is what the chapter's words say.
func TestByTwin(t *testing.T) {
	for seed := range 150 {
		r := rand.New(rand.NewSource(int64(seed)))
		capacity := 1 + r.Intn(150)
		d, w := made(t, capacity), &twin{capacity: capacity, files: map[string]twinFile{}}
		for i := range 600 {
			got, want := step(r, d, w)
			if got != want {
				t.Fatalf("seed %d, step %d: %d, want %d", seed, i, got, want)
			}
			compare(t, d, w)
			if t.Failed() {
				t.Fatalf("seed %d, step %d", seed, i)
			}
		}
	}
}
