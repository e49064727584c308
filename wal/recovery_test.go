package wal

import (
	"fmt"
	"math/rand"
	"slices"
	"strings"
	"testing"

	"archipelago/api"
	"archipelago/disk"
)

// history is what P5.5 lets a start find: a beginning of all that has at least the first sure payloads, or just those of
// a checkpoint by which the disk failed.
type history struct {
	all   []string
	sure  int
	drawn []string // of a checkpoint that failed; nil, if none did
}

func (h *history) allows(found []string) bool {
	if h.drawn != nil && slices.Equal(found, h.drawn) {
		return true
	}
	return len(found) >= h.sure && len(found) <= len(h.all) && slices.Equal(found, h.all[:len(found)])
}

// act is one thing that is done with a log: an append or a checkpoint of payloads, a sync, or opening it anew.
type act struct {
	kind     string
	payloads []string
}

// play does it, and keeps the history; it tells whether the disk failed.
func (h *history) play(t *testing.T, d *disk.Disk, w **Wal, a act) (failed bool) {
	t.Helper()
	err := api.OK
	switch a.kind {
	case "append":
		if err = (*w).Append(a.payloads); err != api.ErrFull {
			h.all = append(h.all, a.payloads...)
		}
	case "sync":
		if err = (*w).Sync(); err == api.OK {
			h.sure = len(h.all)
		}
	case "checkpoint":
		switch err = (*w).Checkpoint(a.payloads); err {
		case api.OK:
			h.all, h.sure = slices.Clone(a.payloads), len(a.payloads)
		case api.ErrDown:
			h.drawn = append([]string{}, a.payloads...)
		}
	case "open":
		var found []string
		var v *Wal
		if v, found, err = Open(d); err == api.OK {
			*w = v
			if !slices.Equal(found, h.all) {
				t.Fatalf("Open = %.60q, want %.60q", found, h.all)
			}
		}
	}
	if err != api.OK && err != api.ErrFull && err != api.ErrDown {
		t.Fatalf("%s = %d", a.kind, err)
	}
	return err == api.ErrDown
}

// recover starts the disk, opens its log, and wants what the history allows. It goes on from what was found.
func (h *history) recover(t *testing.T, d *disk.Disk) *Wal {
	t.Helper()
	must(t, d.Start())
	w, found, err := Open(d)
	if err != api.OK || !h.allows(found) {
		t.Fatalf("Open behind a start = %.60q, %d, want a beginning of %.60q with %d at least, or %.60q", found, err, h.all, h.sure, h.drawn)
	}
	*h = history{all: found, sure: len(found)}
	return w
}

// fixedScript has an act of each kind, new segments, and checkpoints that have something stale to remove.
func fixedScript() []act {
	full := listTo(api.Segment + 3)
	return []act{
		{"append", []string{"a", ""}}, {"append", []string{"b"}}, {"sync", nil}, {"append", []string{"c", "d"}},
		{"append", full}, {"append", []string{"e"}}, {"sync", nil}, {"append", []string{"f"}},
		{"checkpoint", []string{"g", "", "h"}}, {"append", []string{"i", "j"}}, {"checkpoint", nil}, {"open", nil},
		{"append", full}, {"append", []string{"k"}}, {"append", []string{"l", "m"}}, {"checkpoint", []string{"n"}},
		{"sync", nil}, {"append", []string{"o"}}, {"sync", nil}, {"append", []string{"p"}}, {"checkpoint", []string{"n", "o", "p"}},
	}
}

// P5.5: a failure at each change of a script, with so many bytes kept of each file; when the log was mended, the rest of
// the script goes on as ever.
func TestFailureAtEachChange(t *testing.T) {
	failures := 0
	for n, more := 0, true; more; n++ {
		more = false
		for _, k := range []int{-1, 0, 1, 4, 5, 6, 7, 11, 12, 13, 17, 4005, 4006, 16387, 16388, 1 << 20} {
			d := with(t, roomy)
			h, w := &history{}, wantOpen(t, d)
			must(t, d.Fail(n, slices.Repeat([]int{k}, 16)))
			for _, a := range fixedScript() {
				if h.play(t, d, &w, a) {
					w, more = h.recover(t, d), true
					failures++
				}
			}
			must(t, d.Crash(nil))
			h.recover(t, d)
		}
	}
	if failures < 25*16 {
		t.Errorf("%d failures only", failures)
	}
}

// P5.5: a crash behind each act of the script, with so many bytes kept.
func TestCrashBehindEachAct(t *testing.T) {
	for n := range fixedScript() {
		for k := range 40 {
			d := with(t, roomy)
			h, w := &history{}, wantOpen(t, d)
			for i, a := range fixedScript() {
				h.play(t, d, &w, a)
				if i == n {
					must(t, d.Crash(slices.Repeat([]int{k}, 16)))
					w = h.recover(t, d)
				}
			}
		}
	}
}

// P5.5: a failure at each change of an Open that mends, and at each one of the next Open, and so on.
func TestFailureOfOpens(t *testing.T) {
	for n := range 6 {
		for keep := range 20 {
			d := with(t, roomy)
			w := wantOpen(t, d)
			must(t, w.Append(listTo(api.Segment)))
			must(t, w.Append([]string{"a"}))
			must(t, d.Fail(3, nil)) // the new c file is there, and nothing is removed
			wantErr(t, w.Checkpoint([]string{"b", "c"}), api.ErrDown)
			must(t, d.Start())
			wantNames(t, d, "c3", "s1", "s2")
			must(t, d.Append("s4", frameOf("d")))
			must(t, d.Sync("s4"))
			must(t, d.Append("s4", frameOf("e")+"\x02???"))
			must(t, d.Append("t", "?"))
			must(t, d.Fail(n, []int{keep, keep, keep, keep, keep}))
			want := []string{"b", "c", "d", "e"}
			for range 6 {
				_, found, err := Open(d)
				if err == api.OK && !slices.Equal(found, want) {
					t.Fatalf("Open = %q, want %q", found, want)
				}
				if err == api.ErrDown {
					must(t, d.Start())
					must(t, d.Fail(n, nil))
					if keep < 6 { // the crash left less than the frame that was not sure
						want = []string{"b", "c", "d"}
					}
				}
			}
		}
	}
}

// anyPayloads are some payloads, each unlike all others; now and then as many as fill a segment.
func anyPayloads(r *rand.Rand, count *int) []string {
	l := make([]string, r.Intn(5))
	size := 10
	if r.Intn(4) == 0 {
		size = 8000
	}
	for i := range l {
		*count++
		l[i] = fmt.Sprint(*count, ":", strings.Repeat("x", r.Intn(size)))
	}
	return l
}

// P5.5: random scripts, with failures, crashes, and disks of any room.
func TestRecoveryOfRandomScripts(t *testing.T) {
	for seed := range 150 {
		r := rand.New(rand.NewSource(int64(seed)))
		d := with(t, []int{100, 5000, 60000, roomy}[r.Intn(4)])
		h, w, count := &history{}, wantOpen(t, d), 0
		for range 200 {
			a := act{"append", anyPayloads(r, &count)}
			switch k := r.Intn(20); {
			case k < 4:
				a.kind = "sync"
			case k < 6:
				a.kind = "open"
			case k < 7:
				a.kind = "checkpoint"
			case k < 9:
				must(t, d.Fail(r.Intn(8), keeps(r)))
			case k < 10:
				must(t, d.Crash(keeps(r)))
				w = h.recover(t, d)
			}
			if h.play(t, d, &w, a) {
				w = h.recover(t, d)
			}
			if t.Failed() {
				t.Fatalf("seed %d", seed)
			}
		}
	}
}

func keeps(r *rand.Rand) []int {
	l := make([]int, r.Intn(17))
	for i := range l {
		l[i] = r.Intn(12) * r.Intn(1+r.Intn(2000))
	}
	return l
}
