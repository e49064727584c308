package clocks

import (
	"math"
	"math/rand"
	"slices"
	"testing"

	"archipelago/api"
)

// The numbers of the document, which api is to have.
const (
	leastSites = 2
	mostSites  = 7
	lastTick   = 1073741824
)

// notSoMany are numbers of sites that there can't be.
var notSoMany = []int{math.MinInt, math.MinInt + 1, -7, -3, -2, -1, 0, 1, 8, 9, 14, lastTick, math.MaxInt - 1, math.MaxInt}

// noSites are numbers that are none of n sites; those that there could be in other worlds among them.
func noSites(n int) []int {
	return []int{math.MinInt, math.MinInt + 1, -n - 1, -n, -2, -1, n, n + 1, 7, 8, 2 * n, math.MaxInt - 1, math.MaxInt}
}

// made are n clocks, which have to be there.
func made(t *testing.T, n int) *Clocks {
	t.Helper()
	c, err := New(n)
	if c == nil || err != api.OK {
		t.Fatalf("New(%d) = %v %d, want clocks and 0", n, c, err)
	}
	return c
}

// wantTick, as those below, marks itself as a helper only where it fails: that costs more than all else.
func wantTick(t *testing.T, c *Clocks, site int, want api.Errno) {
	if err := c.Tick(site); err != want {
		t.Helper()
		t.Fatalf("Tick(%d) = %d, want %d", site, err, want)
	}
}

func wantAt(t *testing.T, c *Clocks, site, want int) {
	if at, err := c.At(site); at != want || err != api.OK {
		t.Helper()
		t.Fatalf("At(%d) = %d %d, want %d 0", site, at, err, want)
	}
}

func wantNoAt(t *testing.T, c *Clocks, site int, want api.Errno) {
	if at, err := c.At(site); at != 0 || err != want {
		t.Helper()
		t.Fatalf("At(%d) = %d %d, want 0 %d", site, at, err, want)
	}
}

func wantSkew(t *testing.T, c *Clocks, skew, worst int) {
	if s := c.Skew(); s != skew {
		t.Helper()
		t.Fatalf("Skew = %d, want %d", s, skew)
	}
	if s := c.Worst(); s != worst {
		t.Helper()
		t.Fatalf("Worst = %d, want %d", s, worst)
	}
}

// wantAll wants the clocks to be at those numbers, that skew, and no clock besides.
func wantAll(t *testing.T, c *Clocks, at []int, worst int) {
	t.Helper()
	for site, want := range at {
		wantAt(t, c, site, want)
	}
	wantNoAt(t, c, len(at), api.ErrArg)
	wantNoAt(t, c, -1, api.ErrArg)
	wantSkew(t, c, slices.Max(at)-slices.Min(at), worst)
}

// tickAll ticks the sites in their order; each Tick has to be OK.
func tickAll(t *testing.T, c *Clocks, sites ...int) {
	t.Helper()
	for _, site := range sites {
		wantTick(t, c, site, api.OK)
	}
}

// P7.1, P7.2: the chapter's examples.
func TestExamples(t *testing.T) {
	c := made(t, 3)
	tickAll(t, c, 0, 0, 2)
	wantAt(t, c, 0, 2)
	wantAt(t, c, 1, 0)
	wantAt(t, c, 2, 1)
	wantSkew(t, c, 2, 2)
	tickAll(t, c, 1, 1)
	wantSkew(t, c, 1, 2)
	wantTick(t, c, 3, api.ErrArg)
	wantNoAt(t, c, -1, api.ErrArg)
	if c, err := New(8); c != nil || err != api.ErrArg {
		t.Errorf("New(8) = %v %d, want nil 2", c, err)
	}
}

// P7.1: api has the document's numbers.
func TestLimits(t *testing.T) {
	if api.MinSites != leastSites || api.MaxSites != mostSites || api.MaxClock != lastTick {
		t.Errorf("sites %d to %d, ticks up to %d", api.MinSites, api.MaxSites, api.MaxClock)
	}
	if api.ErrNil != 1 || api.ErrArg != 2 || api.ErrLong != 3 {
		t.Errorf("errors %d %d %d, want 1 2 3", api.ErrNil, api.ErrArg, api.ErrLong)
	}
}

// P7.1, P7.2: of each number of sites that there may be, New makes as many clocks, all at 0, and no skew was there yet.
func TestNewHasAllClocksAtZero(t *testing.T) {
	for n := leastSites; n <= mostSites; n++ {
		wantAll(t, made(t, n), make([]int, n), 0)
	}
}

// P7.1: New makes no clocks for what are not so many sites.
func TestNewRefusesWhatAreNotSoManySites(t *testing.T) {
	for _, n := range notSoMany {
		if c, err := New(n); c != nil || err != api.ErrArg {
			t.Errorf("New(%d) = %v %d, want nil 2", n, c, err)
		}
	}
}

// P7.1, P7.3: a Tick lets one clock go on, by one: each site's, the first one and the last one among them.
func TestTickLetsOneClockGoOn(t *testing.T) {
	for n := leastSites; n <= mostSites; n++ {
		for site := range n {
			c, at := made(t, n), make([]int, n)
			for range 5 {
				tickAll(t, c, site)
				at[site]++
				wantAll(t, c, at, at[site])
			}
		}
	}
}

// P7.1, P7.2: what is no site is refused by Tick and At, and nothing is changed by that: neither right behind New, nor
// later on.
func TestNoSuchSite(t *testing.T) {
	for n := leastSites; n <= mostSites; n++ {
		c, at := made(t, n), make([]int, n)
		for round := range 3 {
			for _, site := range noSites(n) {
				if site >= 0 && site < n {
					continue // seven sites or more are none only in smaller worlds
				}
				wantTick(t, c, site, api.ErrArg)
				wantNoAt(t, c, site, api.ErrArg)
				wantAll(t, c, at, round)
			}
			tickAll(t, c, n-1)
			at[n-1]++
		}
	}
}

// P7.1, P7.2: a clock comes to MaxClock by Ticks and no further, while others go on; its Tick that is refused changes
// nothing, and one of a site that is none is still told to be that.
func TestMaxClock(t *testing.T) {
	c := made(t, 2)
	for range lastTick - 1 {
		wantTick(t, c, 1, api.OK)
	}
	wantAll(t, c, []int{0, lastTick - 1}, lastTick-1)
	tickAll(t, c, 1)
	wantAll(t, c, []int{0, lastTick}, lastTick)
	for range 3 {
		wantTick(t, c, 1, api.ErrLong)
		wantTick(t, c, 2, api.ErrArg)
		wantAll(t, c, []int{0, lastTick}, lastTick)
	}
	tickAll(t, c, 0, 0)
	wantTick(t, c, 1, api.ErrLong)
	wantAll(t, c, []int{2, lastTick}, lastTick)
}

// P7.2: the skew falls as those that are behind come up, and the worst one stays till a worse one is there.
func TestWorstStaysWhereTheSkewFalls(t *testing.T) {
	for n := leastSites; n <= mostSites; n++ {
		c := made(t, n)
		for i := 1; i <= 4; i++ {
			tickAll(t, c, 0)
			wantSkew(t, c, i, i)
		}
		for i := range 4 {
			for site := 1; site < n; site++ {
				wantSkew(t, c, 4-i, 4)
				tickAll(t, c, site)
			}
			wantSkew(t, c, 3-i, 4)
		}
		for i := 1; i <= 5; i++ {
			tickAll(t, c, n-1)
			wantSkew(t, c, i, max(i, 4))
		}
	}
}

// P7.2: the skew is that of all clocks: of whichever two sites the one is ahead and the other one behind.
func TestSkewIsOfAllClocks(t *testing.T) {
	for n := leastSites; n <= mostSites; n++ {
		for ahead := range n {
			for behind := range n {
				if ahead == behind {
					continue
				}
				c, at := made(t, n), make([]int, n)
				worst := 0
				for site := range n {
					ticks := 3
					if site == ahead {
						ticks = 5
					}
					if site == behind {
						ticks = 1
					}
					for range ticks {
						worst = wantStep(t, c, at, site, worst)
					}
				}
				wantAll(t, c, at, worst)
			}
		}
	}
}

// P7.1, P7.2: clocks that are nil, or that New did not make, are none for every call, whichever site it is of; and they
// stay so.
func TestNone(t *testing.T) {
	var zero Clocks
	sites := append(noSites(7), 0, 1, 2, 6)
	for _, c := range []*Clocks{nil, {}, &zero, new(Clocks)} {
		for _, site := range sites {
			wantTick(t, c, site, api.ErrNil)
			wantNoAt(t, c, site, api.ErrNil)
			wantSkew(t, c, 0, 0)
		}
	}
	if zero != (Clocks{}) {
		t.Errorf("calls made %v of clocks that New did not make", zero)
	}
}

// P7.1, P7.2: sets of clocks beside one another have nothing in common.
func TestSetsBesideOneAnother(t *testing.T) {
	a, b := made(t, 3), made(t, 3)
	tickAll(t, a, 0, 0, 0)
	wantAll(t, b, []int{0, 0, 0}, 0)
	tickAll(t, b, 1)
	wantAll(t, a, []int{3, 0, 0}, 3)
	wantAll(t, b, []int{0, 1, 0}, 1)
	d := made(t, 7)
	tickAll(t, d, 6, 6)
	wantAll(t, a, []int{3, 0, 0}, 3)
	wantAll(t, b, []int{0, 1, 0}, 1)
	wantAll(t, d, []int{0, 0, 0, 0, 0, 0, 2}, 2)
}

// P7.2: asking changes nothing, however often.
func TestAskingChangesNothing(t *testing.T) {
	c := made(t, 4)
	tickAll(t, c, 3, 3, 1)
	was := *c
	for range 3 {
		wantAll(t, c, []int{0, 1, 0, 2}, 2)
	}
	if *c != was {
		t.Errorf("the clocks are %v, and were %v", *c, was)
	}
}

// wantStep wants of a Tick of that site what the chapter says, where the clocks are at those numbers, and notes it in
// them; it answers the worst skew.
func wantStep(t *testing.T, c *Clocks, at []int, site, worst int) int {
	t.Helper()
	skew := slices.Max(at) - slices.Min(at)
	if site < 0 || site >= len(at) {
		wantTick(t, c, site, api.ErrArg)
	} else {
		wantTick(t, c, site, api.OK)
		at[site]++
	}
	now := slices.Max(at) - slices.Min(at)
	if now > skew+1 || now < skew-1 {
		t.Fatalf("by one Tick the skew is %d, and was %d", now, skew)
	}
	worst = max(worst, now)
	wantAll(t, c, at, worst)
	return worst
}

// P7.1, P7.2, P7.3: random scripts, beside a list of numbers: a Tick changes one clock alone, by one, and the skew by at
// most one; together the clocks are at as many ticks as were OK.
func TestRandomScripts(t *testing.T) {
	r := rand.New(rand.NewSource(7))
	for round := range 300 {
		n := leastSites + r.Intn(mostSites-leastSites+1)
		c, at := made(t, n), make([]int, n)
		worst, good := 0, 0
		favoured := r.Intn(n) // goes ahead of the others
		for range 200 {
			site := r.Intn(n+2) - 1
			if round%2 == 0 && r.Intn(2) == 0 {
				site = favoured
			}
			worst = wantStep(t, c, at, site, worst)
			if site >= 0 && site < n {
				good++
			}
		}
		sum := 0
		for site := range n {
			told, _ := c.At(site)
			sum += told
		}
		if sum != good {
			t.Fatalf("the clocks are together at %d, behind %d Ticks that were OK", sum, good)
		}
	}
}

// P7.3: where each other site is ticked ahead of a site's next tick, the skew never is above one, in whichever order the
// sites come.
func TestRoundsKeepTheSkewAtOne(t *testing.T) {
	r := rand.New(rand.NewSource(73))
	for n := leastSites; n <= mostSites; n++ {
		c := made(t, n)
		order := r.Perm(n) // the same in all rounds: else a site's next tick would come ahead of another one's
		for range 50 {
			for i, site := range order {
				tickAll(t, c, site)
				skew := 1
				if i == n-1 {
					skew = 0
				}
				wantSkew(t, c, skew, 1)
			}
		}
	}
}
