package records

import (
	"archipelago/api"
	"archipelago/orders"
)

// span is all that a number may be.
type span struct {
	least, most int
}

var (
	streams      = span{0, api.MaxStreams - 1}
	epochs       = span{1, api.MaxEpoch}
	epochsOrNone = span{0, api.MaxEpoch} // 0: there was none yet
	logs         = span{0, api.MaxLog}   // how many entries a log has
	indices      = span{0, api.MaxLog - 1}
	feeds        = span{0, 256} // how many spots a feed has
)

// asked is what is asked of a record's numbers, and of how many entries and spots it has. Where no span is named
// nothing but 0 may be.
type asked struct {
	stream, epoch, view, from, length, entries, spots span
}

// askedOf is what is asked of a record of that kind with so many entries; false, if there is no such kind.
func askedOf(kind, entries int) (a asked, ok bool) {
	switch kind {
	case api.RecPromise:
		return asked{stream: streams, epoch: epochs}, true
	case api.RecView:
		return asked{stream: streams, epoch: epochs, from: span{0, api.MaxLog - entries}, entries: logs}, true
	case api.RecCommit:
		return asked{stream: streams, length: logs}, true
	case api.RecBase:
		return asked{stream: streams, epoch: epochsOrNone, view: epochsOrNone, length: span{0, entries}, entries: logs}, true
	case api.RecFeed:
		return asked{spots: feeds}, true
	}
	return asked{}, false
}

// allow tells whether the record's numbers are as asked, and how many entries and spots it has; not what these are.
func (a asked) allow(r api.Record) bool {
	return a.stream.has(r.Stream) && a.epoch.has(r.Epoch) && a.view.has(r.View) &&
		a.from.has(r.From) && a.length.has(r.Length) &&
		a.entries.has(len(r.Entries)) && a.spots.has(len(r.Feed))
}

// has tells whether the number is in the span.
func (p span) has(n int) bool {
	return n >= p.least && n <= p.most
}

// isEntry tells whether an entry of that stream may be so.
func isEntry(e api.Entry, stream int) bool {
	return epochs.has(e.Epoch) && e.Order.Stream == stream && orders.Check(e.Order) == api.OK
}

// isSpot tells whether a stream may have an entry at that place.
func isSpot(x api.Spot) bool {
	return streams.has(x.Stream) && indices.has(x.Index)
}
