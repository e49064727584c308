package lists

import (
	"math/rand"
	"slices"
	"testing"

	"archipelago/api"
)

// register is one of that View, with as many entries.
func register(view, length int) api.Register {
	return api.Register{Promised: view, View: view, Log: slices.Repeat(logOf(a), length)}
}

// P14.2: the chapter's example.
func TestExampleOfBest(t *testing.T) {
	wantBest(t, []api.Register{register(2, 1), register(3, 0), register(3, 2), register(3, 2)}, 2)
}

// P14.2: none, whether the list is nil or empty, and one, whatever it is.
func TestBestOfNoneAndOfOne(t *testing.T) {
	wantBest(t, nil, -1)
	wantBest(t, []api.Register{}, -1)
	wantBest(t, []api.Register{register(3, 2)}[:0], -1)
	for _, view := range append([]int{-1, 0, 1, 1 << 20}, ends...) {
		for _, length := range []int{0, 1, 64, 300} {
			wantBest(t, []api.Register{register(view, length)}, 0)
			wantBest(t, []api.Register{register(view, length), register(view, length)}[:1], 0)
		}
	}
	wantBest(t, []api.Register{{}}, 0)
}

// P14.2: of several with one View that with the longest Log: first, last and in the middle.
func TestBestByLength(t *testing.T) {
	for _, view := range append([]int{-1, 0, 1, 1 << 20}, ends...) {
		for at := range 5 {
			l := slices.Repeat([]api.Register{register(view, 2)}, 5)
			l[at] = register(view, 3)
			wantBest(t, l, at)
			l[(at+1)%5] = register(view, 0)
			wantBest(t, l, at)
			l[(at+2)%5] = register(view, 3)
			wantBest(t, l, min(at, (at+2)%5))
		}
	}
}

// P14.2: the greatest View is best, first, last and in the middle, also with a shorter Log, or with none.
func TestBestByView(t *testing.T) {
	for _, view := range []int{-7, -1, 0, 1, 2, 1 << 20, 1<<32 - 1, ends[0], ends[2]} {
		for at := range 5 {
			for length := range 4 {
				l := slices.Repeat([]api.Register{register(view, 2)}, 5)
				l[at] = register(view+1, length)
				wantBest(t, l, at)
				l[(at+1)%5] = register(ends[0], 70)
				wantBest(t, l, at)
			}
		}
	}
}

// P14.2: of several that are alike in both the first one, whatever else they have.
func TestBestOfSeveralAlike(t *testing.T) {
	for _, length := range []int{0, 1, 2, 64} {
		for first := range 4 {
			for second := first + 1; second < 5; second++ {
				l := slices.Repeat([]api.Register{register(4, length+1)}, 5)
				l[first], l[second] = register(5, length), register(5, length)
				wantBest(t, l, first)
				l[second].Promised, l[second].Commit = 900, 900
				for i := range l[second].Log {
					l[second].Log[i] = c
				}
				wantBest(t, l, first)
				l[first].Promised, l[first].Commit = 9000, -1
				wantBest(t, l, first)
			}
		}
	}
	wantBest(t, slices.Repeat([]api.Register{{}}, 7), 0)
	wantBest(t, slices.Repeat([]api.Register{register(0, 1)}, 300), 0)
}

// P14.2: nothing but View and the Log's length is asked: registers that no records could come to are held likewise.
func TestBestByNothingElse(t *testing.T) {
	for _, n := range append([]int{-1, 0, 1, 1 << 20, 1<<20 + 1, 1 << 40}, ends...) {
		odd := api.Register{Promised: n, View: 2, Log: []api.Entry{{Epoch: n, Order: api.Order{ID: n, Stream: n, Expect: n, Kind: n, Arg: n}}}, Commit: n}
		wantBest(t, []api.Register{odd, register(2, 2)}, 1)
		wantBest(t, []api.Register{register(2, 2), odd}, 0)
		wantBest(t, []api.Register{odd, register(2, 1)}, 0)
		wantBest(t, []api.Register{register(2, 1), odd}, 0)
		wantBest(t, []api.Register{odd, register(3, 0)}, 1)
		wantBest(t, []api.Register{register(1, 9), odd}, 1)
	}
}

// P14.2: a Log that is nil, one that is empty, and one with much room behind its end have no entries alike.
func TestBestOfLogsOfNone(t *testing.T) {
	none := []api.Register{{View: 1}, {View: 1, Log: []api.Entry{}}, {View: 1, Log: logOf(a, b, c)[:0]}, {View: 1, Log: make([]api.Entry, 0, 99)}}
	for i, x := range none {
		for _, y := range none {
			wantBest(t, []api.Register{x, y}, 0)
		}
		wantBest(t, append(slices.Clone(none), register(1, 1), none[i]), 4)
		wantBest(t, append(slices.Clone(none), register(0, 1), none[i]), 0)
	}
	wantBest(t, []api.Register{{View: 1, Log: logOf(a, b, c)[:1]}, {View: 1, Log: logOf(a, b)}}, 1)
}

// P14.2: Views of 0 and below, and the least and the greatest int, which are not apart by any int.
func TestBestAtTheEnds(t *testing.T) {
	views := []int{ends[0], ends[1], -1 << 32, -2, -1, 0, 1, 1 << 32, ends[2], ends[3]}
	for i, less := range views {
		for _, more := range views[i+1:] {
			wantBest(t, []api.Register{register(less, 3), register(more, 0)}, 1)
			wantBest(t, []api.Register{register(more, 0), register(less, 3)}, 0)
			wantBest(t, []api.Register{register(less, 1), register(more, 1), register(less, 2)}, 1)
		}
	}
	wantBest(t, []api.Register{register(ends[0], 0), register(ends[0], 1)}, 1)
	wantBest(t, []api.Register{register(ends[3], 0), register(ends[3], 1), register(ends[0], 9)}, 1)
}

// P14.2: long Logs, and many registers.
func TestBestOfMany(t *testing.T) {
	wantBest(t, []api.Register{register(1, 1999), register(1, 2000), register(0, 2001), register(1, 300)}, 1)
	l := slices.Repeat([]api.Register{register(1, 1)}, 2000)
	for _, at := range []int{0, 1, 999, 1998, 1999} {
		more := slices.Clone(l)
		more[at] = register(1, 2)
		wantBest(t, more, at)
		more[at] = register(2, 0)
		wantBest(t, more, at)
	}
}

// P14.2: all short lists of registers of a few Views and lengths, by the chapter's words.
func TestAllShortLists(t *testing.T) {
	var kinds []api.Register
	for _, view := range []int{-1, 0, 1} {
		for length := range 3 {
			kinds = append(kinds, register(view, length))
		}
	}
	for _, l := range allOf(4, kinds...) {
		wantBest(t, l, bestByHand(l))
	}
}

// P14.2: random lists, by the chapter's words.
func TestRandomLists(t *testing.T) {
	r := rand.New(rand.NewSource(143))
	for range 20000 {
		var l []api.Register
		for range r.Intn(9) {
			x := api.Register{Promised: anyNumber(r), View: r.Intn(4) - 1, Log: randomLog(r, r.Intn(4)), Commit: anyNumber(r)}
			if r.Intn(6) == 0 {
				x.View = anyNumber(r)
			}
			l = append(l, x)
		}
		wantBest(t, l, bestByHand(l))
	}
}

// P14.2: what was answered before makes no difference.
func TestBestKeepsNothing(t *testing.T) {
	l := []api.Register{register(1, 1), register(2, 1), register(2, 2)}
	wantBest(t, l, 2)
	l[0].View = 3
	wantBest(t, l, 0)
	wantBest(t, l[1:], 1)
	wantBest(t, l[:0], -1)
	l[0].View, l[1].Log = 2, logOf(a, b, c)
	wantBest(t, l, 1)
}
