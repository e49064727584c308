package leases

import (
	"math"
	"testing"

	"archipelago/api"
)

// P17.1, P17.2, P17.3: the chapter's examples.
func TestExamples(t *testing.T) {
	b := made(t, 5)
	wantMay(t, b, 0, 1, 5, true)
	wantGrant(t, b, 0, 1, 5, api.OK)
	wantMay(t, b, 0, 2, 20, false)
	wantMay(t, b, 0, 1, 20, true)
	wantMay(t, b, 0, 2, 21, true)
	wantHolder(t, b, 0, 20, 1)
	wantNoHolder(t, b, 0, 21)
	wantRelease(t, b, 0, 1, api.OK)
	wantNoHolder(t, b, 0, 6)
	b = newBook(t, 5, true)
	wantMay(t, b, 1, 3, 20, false)
	wantMay(t, b, 1, 3, 21, true)
}

// P17.1, P17.3: api has the document's numbers.
func TestLimits(t *testing.T) {
	if api.MaxStreams != streams || api.MaxClock != lastTick || api.Lease != 10 || api.Guard != 6 {
		t.Errorf("streams %d, clock %d, lease %d, guard %d", api.MaxStreams, api.MaxClock, api.Lease, api.Guard)
	}
	if api.OK != 0 || api.ErrNil != 1 || api.ErrArg != 2 {
		t.Errorf("errors %d %d %d, want 0 1 2", api.OK, api.ErrNil, api.ErrArg)
	}
}

// P17.1: without restart there is no grace, whenever the book is made: all may be promised at each tick, from 0 on, also
// ahead of that; and there is no grant.
func TestNewWithoutRestart(t *testing.T) {
	for _, c := range clocks {
		b := made(t, c.now)
		for stream := range streams {
			wantFree(t, b, stream)
		}
	}
}

// P17.1, P17.2: with restart nothing may be promised till a grant of now would be over, and then all; there is no grant.
func TestNewWithRestart(t *testing.T) {
	for _, c := range clocks {
		b := newBook(t, c.now, true)
		for stream := range streams {
			for _, now := range append(around(c.over), c.now-1, c.now, c.now+9, c.now+10) {
				if now < 0 {
					continue // wrapped round, or none
				}
				wantNoHolder(t, b, stream, now)
				for _, epoch := range []int{1, 2, 7, 1048576, math.MaxInt} {
					wantMay(t, b, stream, epoch, now, now >= c.over)
				}
			}
		}
	}
}

// P17.1: a book that is made so far ahead of all ticks that a grant of then would be over ahead of them, too, has neither
// grants nor, at any tick, a grace.
func TestNewAheadOfAllTicks(t *testing.T) {
	for _, now := range []int{math.MinInt, math.MinInt + 1, -lastTick, -17} {
		for _, restart := range []bool{false, true} {
			b := newBook(t, now, restart)
			for stream := range streams {
				wantFree(t, b, stream)
			}
		}
	}
}

// P17.2: ticks are from 0 on: so at what is ahead of all of them nothing may be promised, with restart or without.
func TestMayAheadOfAllTicks(t *testing.T) {
	for _, restart := range []bool{false, true} {
		b := newBook(t, 5, restart)
		wantGrant(t, b, 2, 3, 5, api.OK)
		for _, now := range []int{math.MinInt, math.MinInt + 1, -lastTick, -16, -1} {
			for stream := range streams {
				wantMay(t, b, stream, 3, now, false)
			}
		}
		wantMay(t, b, 1, 3, 0, !restart)
	}
}

// P17.2: the grace holds for all, and Holder doesn't ask it: what is granted ahead of its end has a holder, which may be
// promised nothing for all that.
func TestGraceIsAheadOfGrants(t *testing.T) {
	b := newBook(t, 100, true)
	wantGrant(t, b, 1, 4, 100, api.OK)
	wantGrant(t, b, 2, 4, 110, api.OK)
	wantGrant(t, b, 3, 4, 50, api.OK)
	for now := range 140 {
		for epoch := range 7 {
			wantMay(t, b, 0, epoch, now, now >= 116)
			wantMay(t, b, 1, epoch, now, now >= 116)
			wantMay(t, b, 2, epoch, now, now >= 116 && (epoch == 4 || now >= 126))
			wantMay(t, b, 3, epoch, now, now >= 116)
		}
		for stream, over := range []int{0, 116, 126, 66} {
			if now < over {
				wantHolder(t, b, stream, now, 4)
			} else {
				wantNoHolder(t, b, stream, now)
			}
		}
	}
}

// P17.2: of a stream without a grant, with one that goes on, and with one that is over; of its epoch, a lesser and a
// greater one.
func TestMayAndHolder(t *testing.T) {
	for stream := range streams {
		b := made(t, 0)
		wantFree(t, b, stream)
		wantGrant(t, b, stream, 5, 30, api.OK)
		for _, now := range []int{0, 29, 30, 31, 39, 40, 44, 45} {
			wantHolder(t, b, stream, now, 5)
			for _, epoch := range []int{math.MinInt, -1, 0, 1, 4, 6, 10, 1048576, math.MaxInt} {
				wantMay(t, b, stream, epoch, now, false)
			}
			wantMay(t, b, stream, 5, now, true)
		}
		for _, now := range []int{46, 47, 60, 1000, lastTick, math.MaxInt} {
			wantNoHolder(t, b, stream, now)
			for _, epoch := range []int{1, 4, 5, 6, 1048576, math.MaxInt} {
				wantMay(t, b, stream, epoch, now, true)
			}
		}
	}
}

// P17.2: what is no stream has no grant, whatever the streams have: so it has no holder, and only the grace is asked.
func TestMayAndHolderOfNoStream(t *testing.T) {
	for _, restart := range []bool{false, true} {
		b := newBook(t, 7, restart)
		for stream := range streams {
			wantGrant(t, b, stream, 1+stream, 9, api.OK)
		}
		was := note(b)
		for _, stream := range noStreams {
			for _, now := range []int{0, 9, 22, 23, 24, 25, lastTick, math.MaxInt} {
				wantNoHolder(t, b, stream, now)
				for _, epoch := range []int{1, 2, 9} {
					wantMay(t, b, stream, epoch, now, !restart || now >= 23)
				}
			}
		}
		wantAsNoted(t, b, was)
	}
}

// P17.3: what is no stream, or no epoch above 0, is refused, and nothing is changed by that: neither in a new book, nor
// where there are grants.
func TestGrantRefuses(t *testing.T) {
	b := made(t, 3)
	for round := range 2 {
		was := note(b)
		for _, now := range append([]int{0, 9, 40, lastTick}, ends...) {
			for _, stream := range noStreams {
				for _, epoch := range []int{0, 1, 9, 1048576, math.MaxInt} {
					wantGrant(t, b, stream, epoch, now, api.ErrArg)
				}
			}
			for stream := range streams {
				for _, epoch := range noEpochs {
					wantGrant(t, b, stream, epoch, now, api.ErrArg)
				}
			}
		}
		wantAsNoted(t, b, was)
		for stream := range streams {
			if round == 0 {
				wantFree(t, b, stream)
				wantGrant(t, b, stream, 2, 9, api.OK)
			}
			wantHeld(t, b, stream, 2, 25)
		}
	}
}

// P17.3: each stream that there is may be granted to each epoch above 0, at whichever tick.
func TestGrant(t *testing.T) {
	for _, c := range clocks {
		for stream := range streams {
			for _, epoch := range []int{1, 2, 7, 1048575, 1048576, 1048577, math.MaxInt - 1} {
				b := made(t, 0)
				wantGrant(t, b, stream, epoch, c.now, api.OK)
				wantHeld(t, b, stream, epoch, c.over)
			}
		}
	}
	b := made(t, 0)
	wantGrant(t, b, 3, math.MaxInt, 5, api.OK)
	wantHolder(t, b, 3, 20, math.MaxInt)
	wantMay(t, b, 3, math.MaxInt, 20, true)
	wantMay(t, b, 3, math.MinInt, 20, false)
	wantNoHolder(t, b, 3, 21)
}

// P17.3: a grant that is made far ahead of all ticks is over ahead of them, too, and takes nothing from one that goes on.
func TestGrantAheadOfAllTicks(t *testing.T) {
	for _, now := range []int{math.MinInt, math.MinInt + 1, -lastTick, -17, -16} {
		b := made(t, 0)
		wantGrant(t, b, 0, 3, now, api.OK)
		wantFree(t, b, 0)
		wantGrant(t, b, 0, 3, 5, api.OK)
		wantGrant(t, b, 0, 3, now, api.OK)
		wantHeld(t, b, 0, 3, 21)
	}
}

// P17.3: a lesser epoch than the grant's is granted nothing: neither while that goes on, nor when it is over.
func TestGrantToALesserEpoch(t *testing.T) {
	for _, lesser := range []int{1, 2, 4} {
		for _, now := range []int{0, 9, 10, 11, 25, 26, 27, 500, lastTick, math.MaxInt} {
			b := made(t, 0)
			wantGrant(t, b, 1, 5, 10, api.OK)
			was := note(b)
			wantGrant(t, b, 1, lesser, now, api.OK)
			wantAsNoted(t, b, was)
			wantHeld(t, b, 1, 5, 26)
		}
	}
}

// P17.3: a greater epoch has the grant from then on, also while the lesser one's goes on, and till its own end alone: be
// that later than the lesser one's, or not.
func TestGrantToAGreaterEpoch(t *testing.T) {
	for _, greater := range []int{6, 7, 1048576, math.MaxInt - 1} {
		for _, now := range []int{0, 9, 10, 11, 25, 26, 27, 500} {
			b := made(t, 0)
			wantGrant(t, b, 1, 5, 10, api.OK)
			wantGrant(t, b, 1, greater, now, api.OK)
			wantHeld(t, b, 1, greater, now+span)
			wantGrant(t, b, 1, 5, 900, api.OK)
			wantHeld(t, b, 1, greater, now+span)
		}
	}
}

// P17.3: of the same epoch the later end holds, in whichever order the ticks come.
func TestGrantToTheSameEpoch(t *testing.T) {
	for _, first := range clocks {
		for _, second := range clocks {
			b := made(t, 0)
			wantGrant(t, b, 2, 5, first.now, api.OK)
			wantGrant(t, b, 2, 5, second.now, api.OK)
			wantHeld(t, b, 2, 5, max(first.over, second.over))
		}
	}
}

// P17.3: a clock above MaxClock adds nothing: so a grant of such a tick is over at that very tick, be it the first one of
// the stream, one to a greater epoch, or one to the same; of the same epoch the later end holds, also that of an earlier
// grant of MaxClock.
func TestGrantAboveMaxClock(t *testing.T) {
	for _, now := range []int{lastTick + 1, lastTick + 2, lastTick + 15, lastTick + 16, lastTick + 17, 1 << 40, math.MaxInt} {
		b := made(t, 0)
		wantGrant(t, b, 0, 1, now, api.OK)
		wantHeld(t, b, 0, 1, now)
		wantGrant(t, b, 0, 2, now, api.OK)
		wantHeld(t, b, 0, 2, now)
		wantGrant(t, b, 1, 1, lastTick, api.OK)
		wantGrant(t, b, 1, 1, now, api.OK)
		wantHeld(t, b, 1, 1, max(lastTick+16, now))
		wantGrant(t, b, 1, 2, now, api.OK)
		wantHeld(t, b, 1, 2, now)
	}
}

// P17.1, P17.2, P17.3: the ticks on both sides of MaxClock, by numbers alone: of a grant and of a grace.
func TestBothSidesOfMaxClock(t *testing.T) {
	b := made(t, 0)
	wantGrant(t, b, 0, 1, 1073741825, api.OK)
	wantHolder(t, b, 0, 1073741824, 1)
	wantMay(t, b, 0, 2, 1073741824, false)
	wantNoHolder(t, b, 0, 1073741825)
	wantMay(t, b, 0, 2, 1073741825, true)
	b = made(t, 0)
	wantGrant(t, b, 0, 1, 1099511627776, api.OK)
	wantHolder(t, b, 0, 1099511627775, 1)
	wantMay(t, b, 0, 2, 1099511627775, false)
	wantNoHolder(t, b, 0, 1099511627776)
	wantMay(t, b, 0, 2, 1099511627776, true)
	b = made(t, 0)
	wantGrant(t, b, 0, 1, 1073741824, api.OK)
	wantGrant(t, b, 0, 1, 1073741825, api.OK)
	wantHolder(t, b, 0, 1073741839, 1)
	wantNoHolder(t, b, 0, 1073741840)
	b = newBook(t, 1073741824, true)
	wantMay(t, b, 1, 3, 1073741839, false)
	wantMay(t, b, 1, 3, 1073741840, true)
	b = newBook(t, 1073741825, true)
	wantMay(t, b, 1, 3, 1073741824, false)
	wantMay(t, b, 1, 3, 1073741825, true)
}

// P17.3: what is released is over at each tick, also at those that are ahead of its Grant, and nothing else is changed; a
// second Release makes no difference.
func TestRelease(t *testing.T) {
	for stream := range streams {
		b := made(t, 0)
		for other := range streams {
			wantGrant(t, b, other, 5, 10, api.OK)
		}
		for range 2 {
			wantRelease(t, b, stream, 5, api.OK)
			for now := range 40 {
				wantNoHolder(t, b, stream, now)
				for epoch := range 8 {
					wantMay(t, b, stream, epoch, now, true)
				}
			}
			wantFree(t, b, stream)
			for _, now := range append([]int{-1, -17}, ends...) {
				wantNoHolder(t, b, stream, now)
			}
		}
		for other := range streams {
			if other != stream {
				wantHeld(t, b, other, 5, 26)
			}
		}
	}
}

// P17.3: a Release of another epoch than the grant's changes nothing, nor does one of a stream without a grant, or of
// what is no stream.
func TestReleaseOfAnother(t *testing.T) {
	b := made(t, 0)
	wantGrant(t, b, 1, 5, 10, api.OK)
	was := note(b)
	for _, epoch := range append([]int{-5, -1, 0, 1, 4, 6, 10, 1048576}, ends...) {
		wantRelease(t, b, 1, epoch, api.OK)
	}
	for _, epoch := range append([]int{-1, 0, 1, 5}, ends...) {
		for _, stream := range append([]int{0, 2, 3}, noStreams...) {
			wantRelease(t, b, stream, epoch, api.OK)
		}
	}
	wantAsNoted(t, b, was)
	wantHeld(t, b, 1, 5, 26)
	wantFree(t, b, 0)
}

// P17.3: a grant that was released is still the stream's: so a lesser epoch is granted nothing behind it, the same one
// till its new end alone, and a greater one has it.
func TestGrantBehindARelease(t *testing.T) {
	for _, now := range []int{0, 3, 10, 26, 700, lastTick} {
		b := made(t, 0)
		wantGrant(t, b, 1, 5, 10, api.OK)
		wantRelease(t, b, 1, 5, api.OK)
		for _, lesser := range []int{1, 4} {
			wantGrant(t, b, 1, lesser, now, api.OK)
			wantFree(t, b, 1)
			wantRelease(t, b, 1, lesser, api.OK)
			wantFree(t, b, 1)
		}
		wantGrant(t, b, 1, 5, now, api.OK)
		wantHeld(t, b, 1, 5, now+span)
		wantRelease(t, b, 1, 5, api.OK)
		wantFree(t, b, 1)
		wantGrant(t, b, 1, 6, now, api.OK)
		wantHeld(t, b, 1, 6, now+span)
		wantRelease(t, b, 1, 5, api.OK)
		wantHeld(t, b, 1, 6, now+span)
	}
}

// P17.3: a grant that is over anyway is released, too, and its end does not come back by an earlier Grant.
func TestReleaseOfWhatIsOver(t *testing.T) {
	b := made(t, 0)
	wantGrant(t, b, 0, 2, 40, api.OK)
	wantNoHolder(t, b, 0, 56)
	wantRelease(t, b, 0, 2, api.OK)
	wantFree(t, b, 0)
	wantGrant(t, b, 0, 2, 7, api.OK)
	wantHeld(t, b, 0, 2, 23)
}

// The sentence ahead of P17.1: a book that is nil, or that New did not make, is none for every call, whatever it is
// asked; and it stays so.
func TestNone(t *testing.T) {
	var zero Book
	numbers := append([]int{-1, 0, 1, 2, 3, 4, 21, lastTick}, ends...)
	for _, b := range []*Book{nil, {}, &zero, new(Book)} {
		for _, stream := range numbers {
			for _, epoch := range numbers {
				wantRelease(t, b, stream, epoch, api.ErrNil)
				for _, now := range numbers {
					wantMay(t, b, stream, epoch, now, false)
					wantGrant(t, b, stream, epoch, now, api.ErrNil)
					wantNoHolder(t, b, stream, now)
				}
			}
		}
	}
	if zero.grace != 0 || zero.grants != nil {
		t.Errorf("calls made %v of a book that New did not make", zero)
	}
}

// P17.1: books beside one another have nothing in common.
func TestBooksBesideOneAnother(t *testing.T) {
	a, b, c := made(t, 0), made(t, 0), newBook(t, 30, true)
	wantGrant(t, a, 1, 5, 10, api.OK)
	wantFree(t, b, 1)
	wantGrant(t, b, 1, 5, 20, api.OK)
	wantRelease(t, a, 1, 5, api.OK)
	wantFree(t, a, 1)
	wantHeld(t, b, 1, 5, 36)
	wantNoHolder(t, c, 1, 31)
	wantMay(t, c, 1, 5, 45, false)
	wantMay(t, c, 1, 5, 46, true)
}

// P17.2: asking changes nothing, however often.
func TestAskingChangesNothing(t *testing.T) {
	for _, restart := range []bool{false, true} {
		b := newBook(t, 5, restart)
		wantGrant(t, b, 1, 5, 10, api.OK)
		wantGrant(t, b, 3, 2, 3, api.OK)
		was := note(b)
		numbers := append([]int{-1, 0, 1, 2, 3, 4, 5, 6, 19, 20, 26, 27, lastTick}, ends...)
		for _, stream := range numbers {
			for _, now := range numbers {
				b.Holder(stream, now)
				for _, epoch := range numbers {
					b.May(stream, epoch, now)
				}
			}
		}
		wantAsNoted(t, b, was)
	}
}
