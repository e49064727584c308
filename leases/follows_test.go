package leases

import (
	"math/rand"
	"testing"

	"archipelago/api"
)

// P17.2, P17.3: all short rows of acts with one stream, against the chapter's words; at each tick that matters.
func TestAllShortRows(t *testing.T) {
	var acts []act
	for epoch := 1; epoch <= 3; epoch++ {
		acts = append(acts, act{release: true, epoch: epoch})
		for _, now := range []int{0, 4, 9} {
			acts = append(acts, act{epoch: epoch, now: now})
		}
	}
	var walk func(h hand, left int)
	walk = func(h hand, left int) {
		b := made(t, 0)
		for _, a := range h.done {
			a.do(t, b)
		}
		for _, now := range []int{0, 3, 4, 8, 9, 15, 16, 17, 19, 20, 21, 24, 25, 26} {
			wantLike(t, b, h, 0, now, 0, 1, 2, 3, 4)
		}
		if left == 0 {
			return
		}
		for _, a := range acts {
			walk(hand{done: append(h.done[:len(h.done):len(h.done)], a)}, left-1)
		}
	}
	walk(hand{}, 4)
}

// P17.1, P17.2, P17.3: acts at random, one behind another, over all streams at once, against the chapter's words: so what
// is done with one stream makes no difference to another one.
func TestRandomActs(t *testing.T) {
	r := rand.New(rand.NewSource(17))
	for range 2500 {
		now, restart := anyTick(r), r.Intn(2) == 0
		b, h := newBook(t, now, restart), newHand(now, restart)
		for range 1 + r.Intn(30) {
			a := anyAct(r)
			a.do(t, b)
			h.done = append(h.done, a)
			for range 12 {
				wantLike(t, b, h, anyStream(r), anyTick(r), anyEpoch(r), 1, 2, 3, 4, 5, 6)
			}
		}
		for stream := range streams {
			for now := range 70 {
				wantLike(t, b, h, stream, now, 1, 2, 3, 4, 5, 6)
			}
			for _, now := range append(around(lastTick), ends[2:]...) {
				wantLike(t, b, h, stream, now, 1, 2, 3, 4, 5, 6)
			}
		}
	}
}

// P17.4: ahead of the tick at which a grant is over no other epoch may be promised, whatever is done, unless it was
// released, or granted to a greater one.
func TestNobodyElseTillItIsOver(t *testing.T) {
	r := rand.New(rand.NewSource(174))
	for range 3000 {
		start, restart := r.Intn(40), r.Intn(2) == 0
		b := newBook(t, start, restart)
		stream, epoch, at := r.Intn(streams), 1+r.Intn(6), r.Intn(60)
		wantGrant(t, b, stream, epoch, at, api.OK)
		for range r.Intn(20) {
			a := anyAct(r)
			if a.stream == stream && (a.release && a.epoch == epoch || !a.release && a.epoch > epoch) {
				continue
			}
			a.do(t, b)
		}
		for now := range at + span {
			wantHolder(t, b, stream, now, epoch)
			for other := 1; other <= 8; other++ {
				if other != epoch {
					wantMay(t, b, stream, other, now, false)
				}
			}
		}
	}
}

// P17.4: each of the two ways out: by its Release, and by a Grant to a greater epoch, others may be promised the stream.
func TestSomebodyElseAheadOfThat(t *testing.T) {
	for now := range 26 {
		b := made(t, 0)
		wantGrant(t, b, 1, 5, 10, api.OK)
		wantMay(t, b, 1, 8, now, false)
		wantGrant(t, b, 1, 8, 10, api.OK)
		wantMay(t, b, 1, 8, now, true)
		wantMay(t, b, 1, 5, now, false)
		wantRelease(t, b, 1, 8, api.OK)
		wantMay(t, b, 1, 5, now, true)
	}
}

// P17.4: a book that is made by a restart may promise nothing for as long as any grant of before, made at no later tick
// than the restart's, can go on. No clock comes above MaxClock, where nothing is added.
func TestARestartOutlastsAllGrants(t *testing.T) {
	r := rand.New(rand.NewSource(175))
	starts := []int{0, 1, 5, 17, 60, 1000, lastTick - 16, lastTick - 1, lastTick}
	for _, start := range starts {
		for range 60 {
			old := newBook(t, 0, r.Intn(2) == 0)
			for range 1 + r.Intn(12) {
				now := max(0, start-r.Intn(20))
				wantGrant(t, old, r.Intn(streams), 1+r.Intn(6), now, api.OK)
			}
			wantGrant(t, old, 0, 7, start, api.OK)
			wantOutlasts(t, newBook(t, start, true), old, start)
		}
	}
}

// wantOutlasts wants the new book to promise nothing while the old one has a holder, and all behind the end of the grant
// that was made at the tick of the restart, the last one that there can be.
func wantOutlasts(t *testing.T, b, old *Book, start int) {
	t.Helper()
	for now := start; now < start+20; now++ {
		goesOn := false
		for stream := range streams {
			_, ok := old.Holder(stream, now)
			goesOn = goesOn || ok
		}
		for stream := range streams {
			for epoch := 1; epoch <= 8; epoch++ {
				wantMay(t, b, stream, epoch, now, !goesOn)
			}
		}
	}
}
