package store

import (
	"slices"

	"archipelago/api"
	"archipelago/register"
)

// state is what records lead to: of each stream a register, and the feed. It is a value: none of its lists is written
// into.
type state struct {
	registers [api.MaxStreams]api.Register
	feed      []api.Spot
}

// behind is the state behind a record that may be (records.Check); false, if it may not come there.
func (n state) behind(r api.Record) (state, bool) {
	if r.Kind == api.RecFeed {
		if len(n.feed) > 0 || !n.isFeed(r.Feed) {
			return state{}, false
		}
		n.feed = r.Feed
		return n, true
	}
	old := n.registers[r.Stream]
	next, ok := register.Apply(old, r)
	if !ok {
		return state{}, false
	}
	n.registers[r.Stream] = next
	if r.Kind == api.RecCommit {
		n.feed = slices.Concat(n.feed, places(r.Stream, old.Commit, next.Commit))
	}
	return n, true
}

// places are a stream's, from one up to another.
func places(stream, from, to int) []api.Spot {
	var l []api.Spot
	for index := from; index < to; index++ {
		l = append(l, api.Spot{Stream: stream, Index: index})
	}
	return l
}

// isFeed tells whether the list has just the places that the registers have committed, each stream's from 0 on in order.
func (n state) isFeed(l []api.Spot) bool {
	var next [api.MaxStreams]int
	for _, x := range l {
		if x.Index != next[x.Stream] {
			return false
		}
		next[x.Stream]++
	}
	for stream, r := range n.registers {
		if next[stream] != r.Commit {
			return false
		}
	}
	return true
}

// tell hands on the fewest records that lead from the empty state to this one.
func (n state) tell(lay func(r api.Record)) {
	for stream, r := range n.registers {
		if r.Promised > 0 {
			lay(register.Base(stream, r))
		}
	}
	if len(n.feed) > 0 {
		lay(api.Record{Kind: api.RecFeed, Feed: n.feed})
	}
}
