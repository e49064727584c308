package epochs

import (
	"math"
	"math/rand"
	"slices"
	"testing"

	"archipelago/api"
)

// The numbers of the document, which api is to have.
const (
	leastSites = 2
	mostSites  = 7
	lastEpoch  = 1048576
)

// notSoMany are numbers of sites that there can't be.
var notSoMany = []int{math.MinInt, math.MinInt + 1, -7, -3, -2, -1, 0, 1, 8, 9, 14, lastEpoch, math.MaxInt - 1, math.MaxInt}

// noEpochs are numbers that are no epochs; 0 is one of them.
var noEpochs = []int{math.MinInt, math.MinInt + 1, -lastEpoch, -8, -7, -2, -1, 0, lastEpoch + 1, lastEpoch + 2, lastEpoch + 8, math.MaxInt - 8, math.MaxInt - 1, math.MaxInt}

// epochsAtEdges are those near the first one and near the last one.
func epochsAtEdges() []int {
	l := []int{1, 2, 3, 4, 5, 6, 7, 8, 9}
	for epoch := lastEpoch - 15; epoch <= lastEpoch; epoch++ {
		l = append(l, epoch)
	}
	return l
}

// noSites are numbers that are none of n sites.
func noSites(n int) []int {
	return []int{math.MinInt, math.MinInt + 1, -n - 1, -n, -2, -1, n, n + 1, 2 * n, math.MaxInt - 1, math.MaxInt}
}

// wantOf, as those below, marks itself as a helper only where it fails: that costs more than all else, and there are
// calls for all epochs.
func wantOf(t *testing.T, epoch, n, site int) {
	if s := Of(epoch, n); s != site {
		t.Helper()
		t.Fatalf("Of(%d, %d) = %d, want %d", epoch, n, s, site)
	}
}

func wantNext(t *testing.T, epoch, site, n, next int) {
	if e, err := Next(epoch, site, n); e != next || err != api.OK {
		t.Helper()
		t.Fatalf("Next(%d, %d, %d) = %d %d, want %d 0", epoch, site, n, e, err, next)
	}
}

func wantNoNext(t *testing.T, epoch, site, n int, want api.Errno) {
	if e, err := Next(epoch, site, n); e != 0 || err != want {
		t.Helper()
		t.Fatalf("Next(%d, %d, %d) = %d %d, want 0 %d", epoch, site, n, e, err, want)
	}
}

func wantMajority(t *testing.T, n, want int) {
	t.Helper()
	if m := Majority(n); m != want {
		t.Errorf("Majority(%d) = %d, want %d", n, m, want)
	}
}

func wantMost(t *testing.T, l []int, n, want int) {
	if m, ok := Most(l, n); m != want || !ok {
		t.Helper()
		t.Fatalf("Most(%v, %d) = %d %v, want %d true", l, n, m, ok, want)
	}
}

func wantNoMost(t *testing.T, l []int, n int) {
	if m, ok := Most(l, n); m != 0 || ok {
		t.Helper()
		t.Fatalf("Most(%v, %d) = %d %v, want none", l, n, m, ok)
	}
}

// isMost tells whether at least a majority of numbers are at m or above: those of the list, as all others are below.
func isMost(l []int, m, majority int) bool {
	count := 0
	for _, x := range l {
		if x >= m {
			count++
		}
	}
	return count >= majority
}

// mostByWords is Most by the chapter's words: no number but one of the list's own can be the greatest one.
func mostByWords(l []int, n int) (most int, ok bool) {
	majority := []int{0, 0, 2, 2, 3, 3, 4, 4}[n]
	for _, m := range l {
		if isMost(l, m, majority) && (!ok || m > most) {
			most, ok = m, true
		}
	}
	return most, ok
}

// wantMostByWords wants of the list what mostByWords tells.
func wantMostByWords(t *testing.T, l []int, n int) {
	t.Helper()
	if most, ok := mostByWords(l, n); ok {
		wantMost(t, l, n, most)
	} else {
		wantNoMost(t, l, n)
	}
}

// forLists tells each list of that many numbers out of choice: all orders of them, and all with equal ones.
func forLists(choice []int, size int, tell func(l []int)) {
	l := make([]int, size)
	var fill func(at int)
	fill = func(at int) {
		if at == size {
			tell(l)
			return
		}
		for _, x := range choice {
			l[at] = x
			fill(at + 1)
		}
	}
	fill(0)
}

// P6.1: the chapter's examples.
func TestEpochExamples(t *testing.T) {
	for epoch, site := range map[int]int{0: -1, 1: 0, 2: 1, 3: 2, 4: 0} {
		wantOf(t, epoch, 3, site)
	}
	wantOf(t, 1, 8, -1)
	wantNext(t, 0, 2, 3, 3)
	wantNext(t, 3, 2, 3, 6)
	wantNext(t, 4, 0, 3, 7)
	wantNoNext(t, lastEpoch, 0, 3, api.ErrLong)
}

// P6.1: the sites take turns, from the first epoch to the last one.
func TestOfAllEpochs(t *testing.T) {
	for n := leastSites; n <= mostSites; n++ {
		site := 0
		for epoch := 1; epoch <= lastEpoch; epoch++ {
			wantOf(t, epoch, n, site)
			site++
			if site == n {
				site = 0
			}
		}
	}
}

// P6.1: none is the epoch of a number that is none, or of so many sites as there can't be; both at once too.
func TestOfNone(t *testing.T) {
	for _, epoch := range noEpochs {
		for n := leastSites; n <= mostSites; n++ {
			wantOf(t, epoch, n, -1)
		}
	}
	for _, n := range notSoMany {
		for _, epoch := range append(epochsAtEdges(), noEpochs...) {
			wantOf(t, epoch, n, -1)
		}
	}
}

// P6.1: from 0 and from each epoch on, each site's next one: the epochs are gone through from behind, and each one is
// the next one of its site for those ahead of it.
func TestNextOfAllEpochs(t *testing.T) {
	for n := leastSites; n <= mostSites; n++ {
		next := make([]int, n) // 0: there is none
		site := (lastEpoch - 1) % n
		for epoch := lastEpoch; epoch >= 0; epoch-- {
			for s := range n {
				if next[s] == 0 {
					wantNoNext(t, epoch, s, n, api.ErrLong)
				} else {
					wantNext(t, epoch, s, n, next[s])
				}
			}
			next[site] = epoch
			site = (site + n - 1) % n
		}
	}
}

// P6.1: behind the last epochs just those sites have no next one whose turn does not come any more.
func TestNextAtTheEnd(t *testing.T) {
	for n := leastSites; n <= mostSites; n++ {
		for site := range n {
			wantNoNext(t, lastEpoch, site, n, api.ErrLong)
		}
		last := (lastEpoch - 1) % n
		wantNext(t, lastEpoch-1, last, n, lastEpoch)
		wantNext(t, lastEpoch-n, last, n, lastEpoch)
		for back := 1; back < n; back++ {
			site := (last - back + n) % n
			wantNext(t, lastEpoch-n, site, n, lastEpoch-back)
			wantNext(t, lastEpoch-back-1, site, n, lastEpoch-back)
			wantNoNext(t, lastEpoch-back, site, n, api.ErrLong)
		}
	}
	wantNext(t, lastEpoch-7, 3, 7, lastEpoch)
	wantNext(t, lastEpoch-7, 4, 7, lastEpoch-6)
	wantNoNext(t, lastEpoch-6, 4, 7, api.ErrLong)
}

// P6.1: what may not be handed in, one by one and two or three at once.
func TestNextOfWrongInputs(t *testing.T) {
	for n := leastSites; n <= mostSites; n++ {
		for _, epoch := range noEpochs {
			for site := range n {
				if epoch != 0 {
					wantNoNext(t, epoch, site, n, api.ErrArg)
				}
			}
		}
		for _, site := range noSites(n) {
			for _, epoch := range append(epochsAtEdges(), noEpochs...) {
				wantNoNext(t, epoch, site, n, api.ErrArg)
			}
		}
	}
	for _, n := range notSoMany {
		for _, site := range append(noSites(3), noSites(n)...) {
			for _, epoch := range append(epochsAtEdges(), noEpochs...) {
				wantNoNext(t, epoch, site, n, api.ErrArg)
			}
		}
		for site := range 8 {
			wantNoNext(t, 0, site, n, api.ErrArg)
			wantNoNext(t, 1, site, n, api.ErrArg)
		}
	}
}

// P6.1: where there is no next epoch, and an argument may not be, ErrArg is told, which is named first.
func TestTwoErrors(t *testing.T) {
	for n := leastSites; n <= mostSites; n++ {
		for _, site := range noSites(n) {
			wantNoNext(t, lastEpoch, site, n, api.ErrArg)
		}
		for site := range n {
			wantNoNext(t, lastEpoch+1, site, n, api.ErrArg)
			wantNoNext(t, math.MaxInt, site, n, api.ErrArg)
		}
	}
	for _, n := range notSoMany {
		wantNoNext(t, lastEpoch, 0, n, api.ErrArg)
		wantNoNext(t, math.MaxInt, -1, n, api.ErrArg)
	}
}

// P6.2: majorities of all numbers of sites, and of those that there can't be.
func TestMajority(t *testing.T) {
	for n, want := range map[int]int{2: 2, 3: 2, 4: 3, 5: 3, 6: 4, 7: 4} {
		wantMajority(t, n, want)
	}
	for _, n := range notSoMany {
		wantMajority(t, n, 0)
	}
}

// P6.2: the chapter's examples.
func TestMostExamples(t *testing.T) {
	wantMost(t, []int{5, 1, 9}, 3, 5)
	wantMost(t, []int{5, 1}, 3, 1)
	wantNoMost(t, []int{5}, 3)
	wantMost(t, []int{5, 1, 9}, 4, 1)
}

// P6.2: lists of no numbers, of one fewer than a majority, of a majority, of n and of one more.
func TestMostOfSizes(t *testing.T) {
	for n := leastSites; n <= mostSites; n++ {
		wantNoMost(t, nil, n)
		wantNoMost(t, []int{}, n)
		majority := []int{0, 0, 2, 2, 3, 3, 4, 4}[n]
		l := make([]int, mostSites+2)
		for i := range l {
			l[i] = 10 * (i + 1)
		}
		for size := range len(l) + 1 {
			if size < majority || size > n {
				wantNoMost(t, l[:size], n)
			} else {
				wantMost(t, l[:size], n, 10*(size-majority+1))
			}
		}
		wantMost(t, l[:majority], n, 10)
		wantNoMost(t, l[:majority-1], n)
		wantNoMost(t, l[:n+1], n)
		wantNoMost(t, make([]int, 1000), n)
	}
}

// P6.2: every list of up to n numbers out of a few, in every order, with the least and the greatest int, negative ones
// and equal ones.
func TestMostOfAllSmallLists(t *testing.T) {
	few := []int{math.MinInt, 0, math.MaxInt}
	for n := leastSites; n <= mostSites; n++ {
		for size := range n + 1 {
			forLists(few, size, func(l []int) { wantMostByWords(t, l, n) })
		}
	}
	for n := leastSites; n <= 5; n++ {
		for size := range n + 1 {
			forLists([]int{math.MinInt, -5, -1, 0, 7}, size, func(l []int) { wantMostByWords(t, l, n) })
		}
	}
}

// P6.2: many lists of all kinds of numbers.
func TestMostByWords(t *testing.T) {
	r := rand.New(rand.NewSource(1))
	for range 20000 {
		n := leastSites + r.Intn(mostSites-leastSites+1)
		l := make([]int, r.Intn(n+1))
		for i := range l {
			l[i] = int(r.Uint64()) >> r.Intn(64)
		}
		wantMostByWords(t, l, n)
	}
}

// P6.2: equal numbers are as many as they are, and the least int is above those that a list lacks.
func TestMostOfEqualNumbers(t *testing.T) {
	for _, x := range []int{math.MinInt, math.MinInt + 1, -1, 0, 1, math.MaxInt} {
		for n := leastSites; n <= mostSites; n++ {
			for size := n/2 + 1; size <= n; size++ {
				wantMost(t, slices.Repeat([]int{x}, size), n, x)
			}
			wantNoMost(t, slices.Repeat([]int{x}, n/2), n)
		}
	}
}

// P6.2: no list has such a number where there can't be so many sites, or where it has more numbers than those.
func TestMostOfWrongInputs(t *testing.T) {
	for _, n := range notSoMany {
		for size := range 10 {
			wantNoMost(t, make([]int, size), n)
			wantNoMost(t, slices.Repeat([]int{3}, size), n)
		}
		wantNoMost(t, nil, n)
	}
}

// P6.2, R2, R4: a list stays what it was, also behind its end, and is not kept: what the caller does to it later on
// tells in the next call alone.
func TestListOfTheCaller(t *testing.T) {
	room := []int{9, 1, 5, 7, 3, 8, 2}
	held := slices.Clone(room)
	l := room[:4]
	wantMost(t, l, 5, 5)
	wantMost(t, l, 4, 5)
	wantMost(t, room, 7, 5)
	if !slices.Equal(room, held) {
		t.Error("the list is", room)
	}
	l[0], l[2] = 0, 4
	wantMost(t, l, 5, 1)
	wantMost(t, []int{9, 1, 5, 7}, 5, 5)
	if !slices.Equal(l, []int{0, 1, 4, 7}) {
		t.Error("the list is", l)
	}
}

// setsOf are all sets of n sites, as lists, that have so many sites at least.
func setsOf(n, least int) [][]int {
	var sets [][]int
	for bits := range 1 << n {
		var set []int
		for site := range n {
			if bits>>site&1 == 1 {
				set = append(set, site)
			}
		}
		if len(set) >= least {
			sets = append(sets, set)
		}
	}
	return sets
}

// P6.3: any two sets of a majority's size have a site in common, and with one site fewer some have none.
func TestTwoMajoritiesMeet(t *testing.T) {
	meet := func(a, b []int) bool {
		return slices.ContainsFunc(a, func(site int) bool { return slices.Contains(b, site) })
	}
	for n := leastSites; n <= mostSites; n++ {
		for _, a := range setsOf(n, Majority(n)) {
			for _, b := range setsOf(n, Majority(n)) {
				if !meet(a, b) {
					t.Errorf("of %d sites %v and %v have none in common", n, a, b)
				}
			}
		}
		parted := false
		for _, a := range setsOf(n, Majority(n)-1) {
			for _, b := range setsOf(n, n-Majority(n)) {
				parted = parted || !meet(a, b)
			}
		}
		if !parted {
			t.Errorf("fewer than %d of %d sites would meet too", Majority(n), n)
		}
	}
}

// P6.3: in two lists there is a place at which both are at the number that Most tells of each, or above.
func TestTwoListsMeet(t *testing.T) {
	r := rand.New(rand.NewSource(2))
	for range 20000 {
		n := leastSites + r.Intn(mostSites-leastSites+1)
		a, b := make([]int, n), make([]int, n)
		for i := range n {
			a[i], b[i] = r.Intn(4)-2, r.Intn(10)-5
		}
		most, ok := Most(a, n)
		other, too := Most(b, n)
		if !ok || !too {
			t.Fatalf("%v or %v of %d has no such number", a, b, n)
		}
		place := 0
		for place < n && (a[place] < most || b[place] < other) {
			place++
		}
		if place == n {
			t.Fatalf("%v and %v do not meet at %d and %d", a, b, most, other)
		}
	}
}

// P6.3: epochs of two sites are unlike: the rows of all sites' next epochs have no number twice, and together they are
// all that there are.
func TestEpochsAreUnlike(t *testing.T) {
	for n := leastSites; n <= mostSites; n++ {
		owner := make([]int, lastEpoch+1)
		for site := range n {
			epoch, err := Next(0, site, n)
			for ; err == api.OK; epoch, err = Next(epoch, site, n) {
				if owner[epoch] != 0 {
					t.Fatalf("of %d sites %d and %d have the epoch %d", n, owner[epoch]-1, site, epoch)
				}
				owner[epoch] = site + 1
				wantOf(t, epoch, n, site)
			}
		}
		if slices.Contains(owner[1:], 0) {
			t.Errorf("of %d sites none has the epoch %d", n, slices.Index(owner[1:], 0)+1)
		}
	}
}

// P6.3: from an epoch of a site to its next one there is just one of each other site.
func TestOneOfEachOtherSite(t *testing.T) {
	for n := leastSites; n <= mostSites; n++ {
		for _, epoch := range epochsAtEdges() {
			site := Of(epoch, n)
			next, err := Next(epoch, site, n)
			if err == api.ErrLong {
				continue
			}
			counts := make([]int, n)
			for e := epoch + 1; e < next; e++ {
				counts[Of(e, n)]++
			}
			for s, count := range counts {
				if s == site && count != 0 || s != site && count != 1 {
					t.Errorf("of %d sites: from %d to %d there are %d of the site %d", n, epoch, next, count, s)
				}
			}
			for s := range n {
				if e, err := Next(epoch, s, n); s != site && (err != api.OK || e <= epoch || e >= next) {
					t.Errorf("Next(%d, %d, %d) = %d %d is not ahead of %d", epoch, s, n, e, err, next)
				}
			}
		}
	}
}
