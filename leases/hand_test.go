package leases

import (
	"maps"
	"math"
	"math/rand"
	"testing"

	"archipelago/api"
)

// What the chapter names by number.
const (
	streams  = 4
	span     = 16 // ticks for which a grant goes on
	lastTick = 1073741824
)

// ends are ints at which all things end.
var ends = []int{math.MinInt, math.MinInt + 1, math.MaxInt - 1, math.MaxInt}

// noStreams are numbers of streams that there are not.
var noStreams = []int{math.MinInt, math.MinInt + 1, -5, -2, -1, 4, 5, 64, math.MaxInt - 1, math.MaxInt}

// noEpochs are numbers to which nothing is granted.
var noEpochs = []int{math.MinInt, math.MinInt + 1, -1048576, -2, -1, 0}

// clocks are those at which a book may be made, or asked, each with the tick at which a grant of then is over.
var clocks = []struct{ now, over int }{
	{0, 16}, {1, 17}, {5, 21}, {16, 32}, {1000, 1016}, {536870912, 536870928},
	{lastTick - 17, lastTick - 1}, {lastTick - 1, lastTick + 15}, {lastTick, lastTick + 16},
	{lastTick + 1, lastTick + 1}, {lastTick + 2, lastTick + 2}, {lastTick + 15, lastTick + 15},
	{lastTick + 16, lastTick + 16}, {lastTick + 17, lastTick + 17}, {2 * lastTick, 2 * lastTick},
	{1 << 40, 1 << 40}, {math.MaxInt - 17, math.MaxInt - 17}, {math.MaxInt - 16, math.MaxInt - 16},
	{math.MaxInt - 1, math.MaxInt - 1}, {math.MaxInt, math.MaxInt},
}

// around are ticks at which something may be over: both sides of that one, and those at which all things begin and end.
// Those that wrap round are below 0, and so are no ticks.
func around(tick int) []int {
	return []int{
		0, 1, tick - 17, tick - 16, tick - 2, tick - 1, tick, tick + 1, tick + 2, tick + 15, tick + 16,
		lastTick, lastTick + 1, lastTick + 15, lastTick + 16, math.MaxInt - 1, math.MaxInt,
	}
}

// made is a book that is there, of a site that was not started anew.
func made(t *testing.T, now int) *Book {
	t.Helper()
	return newBook(t, now, false)
}

func newBook(t *testing.T, now int, restart bool) *Book {
	t.Helper()
	b := New(now, restart)
	if b == nil {
		t.Fatalf("New(%d, %v) = nil", now, restart)
	}
	return b
}

// wantMay, as those below, marks itself as a helper only where it fails: that costs more than all else.
func wantMay(t *testing.T, b *Book, stream, epoch, now int, want bool) {
	if may := b.May(stream, epoch, now); may != want {
		t.Helper()
		t.Fatalf("May(%d, %d, %d) = %v, want %v", stream, epoch, now, may, want)
	}
}

func wantHolder(t *testing.T, b *Book, stream, now, want int) {
	if epoch, ok := b.Holder(stream, now); epoch != want || !ok {
		t.Helper()
		t.Fatalf("Holder(%d, %d) = %d %v, want %d true", stream, now, epoch, ok, want)
	}
}

func wantNoHolder(t *testing.T, b *Book, stream, now int) {
	if epoch, ok := b.Holder(stream, now); epoch != 0 || ok {
		t.Helper()
		t.Fatalf("Holder(%d, %d) = %d %v, want 0 false", stream, now, epoch, ok)
	}
}

func wantGrant(t *testing.T, b *Book, stream, epoch, now int, want api.Errno) {
	if err := b.Grant(stream, epoch, now); err != want {
		t.Helper()
		t.Fatalf("Grant(%d, %d, %d) = %d, want %d", stream, epoch, now, err, want)
	}
}

func wantRelease(t *testing.T, b *Book, stream, epoch int, want api.Errno) {
	if err := b.Release(stream, epoch); err != want {
		t.Helper()
		t.Fatalf("Release(%d, %d) = %d, want %d", stream, epoch, err, want)
	}
}

// wantHeld wants the stream to be held by the epoch up to a tick, from 0 on, and by nobody from then on: so till then it
// may be promised to that epoch alone, and then to each one.
func wantHeld(t *testing.T, b *Book, stream, epoch, over int) {
	t.Helper()
	for _, now := range around(over) {
		if now < 0 {
			continue
		}
		if now < over {
			wantHolder(t, b, stream, now, epoch)
		} else {
			wantNoHolder(t, b, stream, now)
		}
		for _, other := range []int{epoch - 1, epoch, epoch + 1, 1, 1048576} {
			wantMay(t, b, stream, other, now, other == epoch || now >= over)
		}
	}
}

// wantFree wants the stream to be held by nobody, at whichever tick.
func wantFree(t *testing.T, b *Book, stream int) {
	t.Helper()
	for _, c := range clocks {
		wantNoHolder(t, b, stream, c.now)
		for _, epoch := range []int{1, 2, 3, 7, 1048576, math.MaxInt} {
			wantMay(t, b, stream, epoch, c.now, true)
		}
	}
}

// note is what is to stay of a book, where nothing is to be changed.
func note(b *Book) Book {
	return Book{grace: b.grace, grants: maps.Clone(b.grants)}
}

func wantAsNoted(t *testing.T, b *Book, was Book) {
	if b.grace != was.grace || !maps.Equal(b.grants, was.grants) {
		t.Helper()
		t.Fatalf("the book is %v, and was %v", *b, was)
	}
}

// act is what is done with a book: a Release, or else a Grant.
type act struct {
	release            bool
	stream, epoch, now int
}

// do does with the book what the act says, and wants what the chapter says that it tells.
func (a act) do(t *testing.T, b *Book) {
	if a.release {
		wantRelease(t, b, a.stream, a.epoch, api.OK)
		return
	}
	want := api.OK
	if a.stream < 0 || a.stream > 3 || a.epoch < 1 {
		want = api.ErrArg
	}
	wantGrant(t, b, a.stream, a.epoch, a.now, want)
}

// hand is a book by the chapter's words: it has no grants, but all that was done, out of which it says them anew.
type hand struct {
	grace int // 0, if there is none
	done  []act
}

func newHand(now int, restart bool) hand {
	if restart {
		return hand{grace: endByHand(now)}
	}
	return hand{}
}

// endByHand is when a grant of now is over: where that clock is above MaxClock, at that very tick.
func endByHand(now int) int {
	behind := 10 + 6
	if now > lastTick {
		behind = 0
	}
	return now + behind
}

// grant is the stream's: the greatest epoch to which it was ever granted, and whether it is over at now: that is so, if
// none of the Grants of this epoch, behind its last Release, goes on then.
func (h hand) grant(stream, now int) (epoch int, over bool) {
	for _, a := range h.done {
		if !a.release && a.stream == stream && stream >= 0 && stream <= 3 && a.epoch > epoch {
			epoch = a.epoch
		}
	}
	over = true
	for i := len(h.done) - 1; i >= 0; i-- {
		a := h.done[i]
		if a.stream != stream || a.epoch != epoch {
			continue
		}
		if a.release {
			break
		}
		over = over && endByHand(a.now) <= now
	}
	return epoch, over
}

func (h hand) may(stream, epoch, now int) bool {
	holder, over := h.grant(stream, now)
	return now >= h.grace && (holder == 0 || over || holder == epoch)
}

func (h hand) holder(stream, now int) (epoch int, ok bool) {
	epoch, over := h.grant(stream, now)
	if epoch == 0 || over {
		return 0, false
	}
	return epoch, true
}

// wantLike wants the book to tell what the hand does, of the stream at now.
func wantLike(t *testing.T, b *Book, h hand, stream, now int, epochs ...int) {
	want, wantOK := h.holder(stream, now)
	if epoch, ok := b.Holder(stream, now); epoch != want || ok != wantOK {
		t.Helper()
		t.Fatalf("Holder(%d, %d) = %d %v, want %d %v; behind %v", stream, now, epoch, ok, want, wantOK, h.done)
	}
	for _, epoch := range epochs {
		if may, want := b.May(stream, epoch, now), h.may(stream, epoch, now); may != want {
			t.Helper()
			t.Fatalf("May(%d, %d, %d) = %v, want %v; behind %v", stream, epoch, now, may, want, h.done)
		}
	}
}

// anyTick is one of the first, mostly; else one near MaxClock, above it or at an end.
func anyTick(r *rand.Rand) int {
	switch r.Intn(8) {
	case 0:
		return lastTick - 20 + r.Intn(60)
	case 1:
		return clocks[r.Intn(len(clocks))].now
	case 2:
		return ends[2+r.Intn(2)]
	}
	return r.Intn(50)
}

// anyStream is one that there is, mostly.
func anyStream(r *rand.Rand) int {
	if r.Intn(12) == 0 {
		return noStreams[r.Intn(len(noStreams))]
	}
	return r.Intn(streams)
}

// anyEpoch is one of the first, mostly.
func anyEpoch(r *rand.Rand) int {
	switch r.Intn(20) {
	case 0:
		return noEpochs[r.Intn(len(noEpochs))]
	case 1:
		return []int{1048575, 1048576, math.MaxInt}[r.Intn(3)]
	}
	return 1 + r.Intn(6)
}

func anyAct(r *rand.Rand) act {
	return act{release: r.Intn(4) == 0, stream: anyStream(r), epoch: anyEpoch(r), now: anyTick(r)}
}
