package deeds

import "archipelago/api"

// aggregate is what is of a tag's own.
type aggregate interface {
	// least is the least Sum that it may have.
	least() int
	// behind tells the state behind the event, but for its Version; false, if the event may not come to it. The state
	// is one of its own that may be, and is not closed.
	behind(s api.State, e api.Event) (api.State, bool)
}

// aggregateOf is the tag's aggregate; false, if there is no such tag.
func aggregateOf(tag int) (aggregate, bool) {
	switch tag {
	case api.TagCount:
		return counter{}, true
	case api.TagPurse:
		return purse{}, true
	case api.TagTally:
		return tally{}, true
	}
	return nil, false
}

// counter may go below 0.
type counter struct{}

func (counter) least() int { return -most }

// behind holds an Arg against the room that the Sum has left, as both together may be more than an int has.
func (c counter) behind(s api.State, e api.Event) (next api.State, ok bool) {
	next = s
	switch e.Kind {
	case api.OrAdd:
		ok = e.Arg >= 1 && e.Arg <= most-s.Sum
		next.Sum += e.Arg
	case api.OrTake:
		ok = e.Arg >= 1 && e.Arg <= s.Sum-c.least()
		next.Sum -= e.Arg
	case api.OrClose:
		ok = e.Arg == 0 && s.Sum == 0
		next.Closed = true
	}
	return next, ok
}

// purse is a counter that may not go below 0.
type purse struct{ counter }

func (purse) least() int { return 0 }

func (p purse) behind(s api.State, e api.Event) (api.State, bool) {
	next, ok := p.counter.behind(s, e)
	return next, ok && next.Sum >= p.least()
}

// tally is a counter from which nothing is taken.
type tally struct{ counter }

func (tally) least() int { return 0 }

func (t tally) behind(s api.State, e api.Event) (api.State, bool) {
	if e.Kind == api.OrTake {
		return s, false
	}
	return t.counter.behind(s, e)
}
