package lists

import (
	"math/rand"
	"slices"
	"testing"

	"archipelago/api"
)

// P14.1: the chapter's examples.
func TestExamplesOfPrefixAndCommon(t *testing.T) {
	wantPrefix(t, logOf(a, b), logOf(a, b, c), true)
	wantPrefix(t, logOf(a, c), logOf(a, b, c), false)
	wantPrefix(t, nil, logOf(a), true)
	wantCommon(t, logOf(a, b, c), logOf(a, c), 1)
	wantCommon(t, logOf(b), logOf(a), 0)
}

// P14.1: a log of none, nil or empty, with one of none, and with one of some, either way round.
func TestLogsOfNone(t *testing.T) {
	for _, none := range [][]api.Entry{nil, {}, logOf(a, b)[:0], make([]api.Entry, 0, 9)} {
		for _, other := range [][]api.Entry{nil, {}, logOf(a, b)[:0]} {
			wantBoth(t, none, other, 0)
			wantPrefix(t, none, other, true)
			wantPrefix(t, other, none, true)
		}
		for _, some := range [][]api.Entry{logOf(a), logOf(a, b, c), {{}}, {{}, {}}} {
			wantBoth(t, none, some, 0)
			wantPrefix(t, none, some, true)
			wantPrefix(t, some, none, false)
		}
	}
}

// P14.1: a log with itself, and with one that has the same entries elsewhere.
func TestALogWithItself(t *testing.T) {
	r := rand.New(rand.NewSource(141))
	for _, length := range []int{1, 2, 3, 64, 65, 300} {
		log := randomLog(r, length)
		wantBoth(t, log, log, length)
		wantBoth(t, log, slices.Clone(log), length)
		wantPrefix(t, log, slices.Clone(log), true)
	}
}

// P14.1: one that is the other less its last entry, less its first one, and with one more.
func TestOneMoreAndOneLess(t *testing.T) {
	log := logOf(a, b, c)
	wantBoth(t, log[:2], log, 2)
	wantPrefix(t, log[:2], log, true)
	wantPrefix(t, log, log[:2], false)
	wantBoth(t, append(slices.Clone(log), a), log, 3)
	wantPrefix(t, log, append(slices.Clone(log), a), true)
	wantPrefix(t, append(slices.Clone(log), a), log, false)
	wantBoth(t, log[1:], log, 0)
	wantBoth(t, log[:1], log[:2], 1)
	wantBoth(t, logOf(a), logOf(a, a), 1)
	wantBoth(t, logOf(a, a), logOf(a, a, a), 2)
}

// P14.1: what stands behind a log's end in memory is none of it.
func TestNothingBehindTheEnd(t *testing.T) {
	long := logOf(a, b, c, a)
	wantBoth(t, long[:2], logOf(a, b, a), 2)
	wantBoth(t, long[:2:2], logOf(a, b, c), 2)
	wantBoth(t, logOf(a, b, c, a, b)[:3], long[:3], 3)
	wantBoth(t, long[:1], long[:0], 0)
}

// P14.1: logs that part at their first entry, in the middle, and at the last one, are one behind that or not: they part all
// the same.
func TestLogsThatPart(t *testing.T) {
	for _, length := range []int{1, 2, 3, 7, 64} {
		for at := range length {
			x := ofEpochs(make([]int, length)...)
			y := slices.Clone(x)
			y[at].Order.Arg++
			wantBoth(t, x, y, at)
			wantPrefix(t, x, y, false)
			wantPrefix(t, y, x, false)
			wantBoth(t, x[:at], y, at)
			wantPrefix(t, x[:at], y, true)
			wantBoth(t, x[:at+1], y, at)
			wantBoth(t, append(slices.Clone(x), a), y, at)
			wantBoth(t, x, append(slices.Clone(y), a, b), at)
		}
	}
}

// P14.1: a log whose entries are the other one's in another order, or with one of them left out, is not that one.
func TestOtherOrders(t *testing.T) {
	wantBoth(t, logOf(a, b), logOf(b, a), 0)
	wantBoth(t, logOf(a, b, c), logOf(a, c, b), 1)
	wantBoth(t, logOf(a, c), logOf(a, b, c), 1)
	wantBoth(t, logOf(b, c), logOf(a, b, c), 0)
	wantBoth(t, logOf(a, b, a, c), logOf(a, b, c), 2)
	wantBoth(t, logOf(a, a, b), logOf(a, b), 1)
}

// P14.1: entries that are unlike in one field alone are unlike: each field of the entry and of its order by itself.
func TestEachFieldCounts(t *testing.T) {
	for _, e := range []api.Entry{a, c, {}, entry(ends[0], ends[3]), entry(ends[3], ends[0])} {
		for _, other := range otherwise(e) {
			wantBoth(t, logOf(e), logOf(other), 0)
			wantBoth(t, logOf(a, e), logOf(a, other), 1)
			wantBoth(t, logOf(a, e, b), logOf(a, other, b), 1)
			wantBoth(t, logOf(other, e), logOf(other, e, e), 2)
		}
	}
}

// P14.1: entries whose numbers may not be are held against one another as all others are.
func TestEntriesThatMayNotBe(t *testing.T) {
	var log []api.Entry
	for _, n := range append([]int{0, -1, 1 << 20, 1<<20 + 1, 1 << 32}, ends...) {
		for i := range 6 {
			e := a
			*fields(&e)[i] = n
			log = append(log, e)
		}
	}
	for at := range log {
		wantBoth(t, log[:at], log, at)
		wantBoth(t, append(slices.Clone(log[:at]), b), log, at)
	}
	wantBoth(t, log, slices.Clone(log), len(log))
}

// P14.1: logs of hundreds and of 2000 entries, which part at each place, or at none.
func TestLongLogs(t *testing.T) {
	for _, length := range []int{65, 300, 2000} {
		x := slices.Repeat(logOf(a), length)
		y := slices.Clone(x)
		wantBoth(t, x, y, length)
		for at := range length {
			y[at] = b
			if got, back := Common(x, y), Common(y, x); got != at || back != at || Prefix(x, y) || Prefix(y, x) {
				t.Fatalf("logs of %d that part at %d have %d in common, and %d the other way round", length, at, got, back)
			}
			if !Prefix(x[:at], y) || Prefix(x[:at+1], y) {
				t.Fatalf("of logs of %d that part at %d a beginning is another one", length, at)
			}
			y[at] = a
		}
	}
}

// P14.1: all pairs of short logs of three entries, by the chapter's words.
func TestAllShortPairs(t *testing.T) {
	logs := allOf(4, a, b, c)
	for _, x := range logs {
		for _, y := range logs {
			wantCommon(t, x, y, commonByHand(x, y))
			wantPrefix(t, x, y, prefixByHand(x, y))
		}
	}
}

// P14.1: random logs, by the chapter's words.
func TestRandomPairs(t *testing.T) {
	r := rand.New(rand.NewSource(142))
	beginning, parted := 0, 0
	for range 20000 {
		x := randomLog(r, r.Intn(20))
		y := cousin(r, x)
		wantCommon(t, x, y, commonByHand(x, y))
		wantPrefix(t, x, y, prefixByHand(x, y))
		wantPrefix(t, y, x, prefixByHand(y, x))
		if Prefix(x, y) || Prefix(y, x) {
			beginning++
		} else {
			parted++
		}
	}
	if beginning < 5000 || parted < 5000 {
		t.Errorf("only %d pairs had a beginning, and %d parted", beginning, parted)
	}
}

// P14.1: what was answered before makes no difference, and neither do logs that are written into behind a call.
func TestPrefixAndCommonKeepNothing(t *testing.T) {
	x, y := logOf(a, b, c), logOf(a, b, c)
	wantBoth(t, x, y, 3)
	y[1] = c
	wantBoth(t, x, y, 1)
	x[1] = c
	wantBoth(t, x, y, 3)
	x[0], y[0] = b, c
	wantBoth(t, x, y, 0)
	wantBoth(t, logOf(a, b, c), logOf(a, b, c), 3)
}
