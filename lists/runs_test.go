package lists

import (
	"math/rand"
	"slices"
	"testing"

	"archipelago/api"
)

// P14.3: the chapter's examples.
func TestExamplesOfRisingAndSeals(t *testing.T) {
	wantRuns(t, logOf(a, b, c), true, 2, 3)
	wantRuns(t, logOf(c, a), false, 1, 2)
}

// P14.3: a log of none rises, and has no seals, whatever stands behind its end.
func TestRunsOfNone(t *testing.T) {
	wantRuns(t, nil, true)
	wantRuns(t, []api.Entry{}, true)
	wantRuns(t, logOf(c, a)[:0], true)
}

// P14.3: a log of one entry, of any epoch.
func TestRunsOfOne(t *testing.T) {
	for _, epoch := range append([]int{-1, 0, 1, 1 << 20, 1<<20 + 1}, ends...) {
		wantRuns(t, ofEpochs(epoch), true, 1)
		wantRuns(t, ofEpochs(epoch, epoch-1, epoch+1)[:1], true, 1)
	}
}

// P14.3: a log of one epoch, at its whole length, has one seal.
func TestRunsOfOneEpoch(t *testing.T) {
	for _, epoch := range append([]int{-1, 0, 1, 1 << 20}, ends...) {
		for _, length := range []int{2, 3, 64, 300, 2000} {
			wantRuns(t, slices.Repeat(ofEpochs(epoch), length), true, length)
		}
	}
}

// P14.3: epochs that rise by one and by many.
func TestRunsThatRise(t *testing.T) {
	wantRuns(t, ofEpochs(1, 2), true, 1, 2)
	wantRuns(t, ofEpochs(1, 2, 3, 4), true, 1, 2, 3, 4)
	wantRuns(t, ofEpochs(1, 1, 2, 2, 2, 3), true, 2, 5, 6)
	wantRuns(t, ofEpochs(0, 1<<20), true, 1, 2)
	wantRuns(t, ofEpochs(1, 100, 100, 1<<20, 1<<40), true, 1, 3, 4, 5)
	wantRuns(t, ofEpochs(5, 5+1<<32, 5+1<<33), true, 1, 2, 3)
}

// P14.3: epochs that fall, at the first place, in the middle, at the last one; by one and by many.
func TestRunsThatFall(t *testing.T) {
	wantRuns(t, ofEpochs(2, 1), false, 1, 2)
	wantRuns(t, ofEpochs(4, 3, 2, 1), false, 1, 2, 3, 4)
	wantRuns(t, ofEpochs(2, 1, 1, 3), false, 1, 3, 4)
	wantRuns(t, ofEpochs(1, 5, 5, 4, 6), false, 1, 3, 4, 5)
	wantRuns(t, ofEpochs(1, 2, 3, 2), false, 1, 2, 3, 4)
	wantRuns(t, ofEpochs(3, 3, 3, 2), false, 3, 4)
	wantRuns(t, ofEpochs(1<<40, 1), false, 1, 2)
	wantRuns(t, ofEpochs(5+1<<32, 5), false, 1, 2)
}

// P14.3: epochs that fall and come again: each run of one has a seal of its own.
func TestRunsThatComeAgain(t *testing.T) {
	wantRuns(t, ofEpochs(1, 2, 1), false, 1, 2, 3)
	wantRuns(t, ofEpochs(2, 1, 2), false, 1, 2, 3)
	wantRuns(t, ofEpochs(3, 3, 1, 1, 3, 3), false, 2, 4, 6)
	wantRuns(t, ofEpochs(1, 2, 1, 2, 2, 1), false, 1, 2, 3, 5, 6)
}

// P14.3: negative epochs, and those that are the least and the greatest int, which are not apart by any int.
func TestRunsAtTheEnds(t *testing.T) {
	wantRuns(t, ofEpochs(-2, -1, 0), true, 1, 2, 3)
	wantRuns(t, ofEpochs(-1, -1, -2), false, 2, 3)
	wantRuns(t, ofEpochs(0, -1), false, 1, 2)
	wantRuns(t, ofEpochs(-1, 1), true, 1, 2)
	wantRuns(t, ofEpochs(1, -1), false, 1, 2)
	epochs := []int{ends[0], ends[1], -1 << 32, -1, 0, 1, 1 << 32, ends[2], ends[3]}
	for i, less := range epochs {
		for _, more := range epochs[i+1:] {
			wantRuns(t, ofEpochs(less, more), true, 1, 2)
			wantRuns(t, ofEpochs(more, less), false, 1, 2)
			wantRuns(t, ofEpochs(less, less, more, more), true, 2, 4)
			wantRuns(t, ofEpochs(less, more, less), false, 1, 2, 3)
		}
	}
	wantRuns(t, ofEpochs(epochs...), true, 1, 2, 3, 4, 5, 6, 7, 8, 9)
}

// P14.3: just the Epoch is asked: no other field makes or hides a run, whether its order may be or not.
func TestRunsByNothingElse(t *testing.T) {
	for _, e := range []api.Entry{a, c, {}} {
		for _, other := range otherwise(e) {
			if other.Epoch == e.Epoch {
				wantRuns(t, logOf(e, other, e), true, 3)
			} else {
				wantRuns(t, logOf(e, other, e), false, 1, 2, 3)
			}
		}
	}
	one := a
	one.Epoch = 2
	wantRuns(t, logOf(a, one), true, 1, 2)
	wantRuns(t, logOf(one, a), false, 1, 2)
}

// P14.3: long logs: that falls at one place alone, whichever that is, and that is a run an entry.
func TestLongRuns(t *testing.T) {
	for _, length := range []int{65, 300, 2000} {
		var rising []int
		for i := range length {
			rising = append(rising, i+1)
		}
		wantRuns(t, ofEpochs(rising...), true, rising...)
		falling := slices.Clone(rising)
		slices.Reverse(falling)
		wantRuns(t, ofEpochs(falling...), false, rising...)
		log := slices.Repeat(ofEpochs(7), length)
		for at := 1; at < length; at += 1 + length/100 {
			log[at].Epoch = 6
			want := []int{at, at + 1, length}
			if at == length-1 {
				want = want[:2]
			}
			wantRuns(t, log, false, want...)
			log[at].Epoch = 7
		}
	}
}

// P14.3: all short logs of three epochs, by the chapter's words.
func TestAllShortRuns(t *testing.T) {
	for _, log := range allOf(6, entry(-1, 1), entry(0, 1), entry(5, 2)) {
		wantRuns(t, log, risingByHand(log), sealsByHand(log)...)
	}
}

// P14.3: random logs, by the chapter's words.
func TestRandomRuns(t *testing.T) {
	r := rand.New(rand.NewSource(144))
	rise := 0
	for range 20000 {
		log := randomLog(r, r.Intn(20))
		if r.Intn(2) == 0 {
			log = risingLog(r, r.Intn(20))
		}
		wantRuns(t, log, risingByHand(log), sealsByHand(log)...)
		if Rising(log) {
			rise++
		}
	}
	if rise < 9000 || rise > 16000 {
		t.Errorf("%d of 20000 logs rise", rise)
	}
}

// P14.3: what Seals answers is memory of its own: it may be written into, and put behind, and the log and other answers stay.
func TestSealsAreNewMemory(t *testing.T) {
	log := ofEpochs(1, 1, 2, 3, 3)
	first, second := Seals(log), Seals(log)
	for i := range first[:cap(first)] {
		first[:cap(first)][i] = -1
	}
	if !slices.Equal(second, []int{2, 3, 5}) {
		t.Errorf("the second answer became %v", second)
	}
	wantRuns(t, log, true, 2, 3, 5)
	for i := range log {
		log[i].Epoch = -i
	}
	if !slices.Equal(second, []int{2, 3, 5}) {
		t.Errorf("behind a change of the log the answer became %v", second)
	}
	wantRuns(t, log, false, 1, 2, 3, 4, 5)
}
