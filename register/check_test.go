package register

import (
	"math/rand"
	"slices"
	"testing"

	"archipelago/api"
)

// P15.1: the empty register may be, with a log that is nil or empty, and so may a plain one, and registers of all ways.
func TestCheckOfRegistersThatMayBe(t *testing.T) {
	wantCheck(t, api.Register{}, true)
	wantCheck(t, api.Register{Log: []api.Entry{}}, true)
	wantCheck(t, api.Register{Log: ofEpochs(9, 9)[:0]}, true)
	for _, r := range append(someRegisters(), plain(), current()) {
		wantCheck(t, r, true)
	}
}

// P15.1: registers that may not be, each for a word of its own.
func TestCheckOfRegistersThatMayNotBe(t *testing.T) {
	for _, r := range badRegisters() {
		if mayByHand(r) {
			t.Fatalf("%v may be", r)
		}
		wantCheck(t, r, false)
	}
}

// P15.1: a View below 0, of 0, below Promised, at it and above it.
func TestCheckOfView(t *testing.T) {
	for _, promised := range []int{0, 1, 2, 9, mostEpoch - 1, mostEpoch} {
		for _, v := range []int{-2, -1, 0, 1, promised - 1, promised, promised + 1, promised + 2, promised + 1<<32} {
			wantCheck(t, reg(promised, v, 0), v >= 0 && v <= promised)
		}
	}
}

// P15.1: a Promised of 0, at MaxEpoch, one above it, and below 0.
func TestCheckOfPromised(t *testing.T) {
	for _, promised := range []int{0, 1, mostEpoch - 1, mostEpoch} {
		wantCheck(t, reg(promised, 0, 0), true)
		wantCheck(t, reg(promised, promised, 0), true)
	}
	for _, promised := range append([]int{mostEpoch + 1, mostEpoch + 2, 1 << 32, -1, -mostEpoch}, ends...) {
		for _, v := range []int{0, 1, mostEpoch, promised} {
			wantCheck(t, reg(promised, v, 0), false)
		}
	}
}

// P15.1: logs of none, of one, of MaxLog entries, of one more and of hundreds.
func TestCheckOfLengths(t *testing.T) {
	for length := range 70 {
		wantCheck(t, reg(3, 3, 0, long(2, length)...), length <= mostLog)
		wantCheck(t, reg(3, 3, min(length, mostLog), long(2, length)...), length <= mostLog)
	}
	for _, length := range []int{128, 320, 2000, 65536} {
		wantCheck(t, reg(3, 3, 0, long(2, length)...), false)
	}
}

// P15.1: an order that may not be, in each of its fields, at each place of a log.
func TestCheckOfOrders(t *testing.T) {
	for _, length := range []int{1, 2, 3, mostLog} {
		for _, o := range badOrders() {
			for _, at := range []int{0, 1, length / 2, length - 1} {
				if at >= length {
					continue
				}
				log := long(2, length)
				log[at].Order = o
				wantCheck(t, reg(3, 3, length, log...), false)
			}
		}
	}
}

// P15.1: orders that may be, up to the edges of all fields, and of several streams in one log.
func TestCheckOfOrdersThatMayBe(t *testing.T) {
	log := append(otherOrders(entry(2, 5)), entry(2, 5))
	wantCheck(t, reg(2, 2, 0, log...), true)
	for _, e := range log {
		wantCheck(t, reg(2, 2, 1, e), true)
	}
	wantCheck(t, reg(2, 2, 3, entry(1, 5), entry(1, 5), entry(2, 5)), true)
}

// P15.1: epochs of 0 and below, of 1, at View and above it.
func TestCheckOfEpochs(t *testing.T) {
	for _, v := range []int{1, 2, 9, mostEpoch} {
		for _, epoch := range append([]int{-1, 0, 1, 2, v - 1, v, v + 1, v + 2, mostEpoch, mostEpoch + 1}, ends...) {
			ok := epoch >= 1 && epoch <= v
			wantCheck(t, reg(v, v, 0, entry(epoch, 1)), ok)
			wantCheck(t, reg(mostEpoch, v, 0, entry(epoch, 1)), ok)
			wantCheck(t, reg(v, v, 0, entry(1, 1), entry(epoch, 1)), ok)
			wantCheck(t, reg(v, v, 0, entry(epoch, 1), entry(v, 1)), ok)
		}
	}
	wantCheck(t, reg(0, 0, 0, entry(0, 1)), false)
	wantCheck(t, reg(1, 0, 0, entry(1, 1)), false)
}

// P15.1: epochs that rise, stay and fall: first, last and in the middle.
func TestCheckOfEpochsInOrder(t *testing.T) {
	for _, x := range []struct {
		epochs []int
		ok     bool
	}{
		{[]int{1, 2, 3, 9}, true}, {[]int{4, 4, 4, 4}, true}, {[]int{1, 1, 9, 9}, true}, {[]int{9, 9, 9, 9}, true},
		{[]int{2, 1, 3, 9}, false}, {[]int{1, 3, 2, 9}, false}, {[]int{1, 2, 9, 8}, false}, {[]int{9, 1, 9, 9}, false}, {[]int{9, 8, 7, 6}, false}, {[]int{1, 2, 3, 1}, false},
	} {
		wantCheck(t, reg(9, 9, 0, ofEpochs(x.epochs...)...), x.ok)
	}
}

// P15.1: a Commit below 0, of 0, of as many entries as there are and of one more.
func TestCheckOfCommit(t *testing.T) {
	for _, length := range []int{0, 1, 2, 63, mostLog} {
		for _, n := range append([]int{-2, -1, 0, 1, length - 1, length, length + 1, mostLog, mostLog + 1}, ends...) {
			wantCheck(t, reg(5, 4, n, long(3, length)...), n >= 0 && n <= length)
		}
	}
}

// P15.1: the least and the greatest int in each of a register's numbers, by itself and in several.
func TestCheckAtTheEnds(t *testing.T) {
	l := append([]int{0, 1}, ends...)
	for _, promised := range l {
		for _, v := range l {
			for _, n := range l {
				for _, log := range [][]api.Entry{nil, ofEpochs(1), ofEpochs(v, v)} {
					r := reg(promised, v, n, log...)
					wantCheck(t, r, mayByHand(r))
				}
			}
		}
	}
}

// P15.1: each number of a register, its entries' among them, changed alone: as the chapter's words have it.
func TestCheckOfEachNumber(t *testing.T) {
	for _, good := range someRegisters() {
		r := Clone(good)
		at := []*int{&r.Promised, &r.View, &r.Commit}
		for i := range r.Log {
			at = append(at, fields(&r.Log[i])...)
		}
		for _, n := range at {
			was := *n
			for _, other := range append([]int{-1, 0, 1, 2, was - 1, was + 1, -was, was + 1<<32, mostEpoch, mostEpoch + 1}, ends...) {
				*n = other
				wantCheck(t, r, mayByHand(r))
			}
			*n = was
		}
	}
}

// P15.1: random registers, by the chapter's words; many of them may be, and many are off in one word alone.
func TestCheckOfRandomRegisters(t *testing.T) {
	r := rand.New(rand.NewSource(151))
	may, one := 0, 0
	for range 30000 {
		g := api.Register{Promised: near(r, r.Intn(9))}
		g.View = near(r, g.Promised-r.Intn(2))
		g.Log = randomLog(r, g.View, randomLength(r))
		g.Commit = near(r, r.Intn(len(g.Log)+1))
		l := faults(g)
		switch len(l) {
		case 0:
			may++
		case 1:
			one++
		}
		wantCheck(t, g, len(l) == 0)
	}
	if may < 5000 || one < 5000 {
		t.Errorf("only %d registers may be, and %d have one fault", may, one)
	}
}

// P15.1: what was asked before makes no difference.
func TestCheckKeepsNothing(t *testing.T) {
	r := plain()
	wantCheck(t, r, true)
	r.Log[2].Order.Kind = 0
	wantCheck(t, r, false)
	r.Log = slices.Clone(r.Log[:2])
	wantCheck(t, r, true)
	r.Log = r.Log[:1]
	wantCheck(t, r, false)
}
