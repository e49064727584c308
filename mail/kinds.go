package mail

import (
	"archipelago/api"
	"archipelago/orders"
	"archipelago/records"
)

const maxID = 1<<31 - 1 // of an order, and so of an answer

// fields are what a message has, a bit each.
type fields uint

const (
	hasStream fields = 1 << iota
	hasEpoch
	hasView
	hasBase
	hasLength
	hasStamp
	hasEntries
	hasOrder
	hasAnswer
)

// kinds are what a message of each kind has. There is no kind 0.
var kinds = [...]fields{
	api.MaPrepare: hasStream | hasEpoch | hasStamp,
	api.MaPromise: hasStream | hasEpoch | hasView | hasLength | hasStamp | hasEntries,
	api.MaRefuse:  hasStream | hasEpoch,
	api.MaAppend:  hasStream | hasEpoch | hasBase | hasLength | hasStamp | hasEntries,
	api.MaAck:     hasStream | hasEpoch | hasLength | hasStamp,
	api.MaGap:     hasStream | hasEpoch | hasLength,
	api.MaForward: hasOrder,
	api.MaReply:   hasStream | hasAnswer,
	api.MaRelease: hasStream | hasEpoch,
	api.MaYield:   hasStream | hasEpoch,
}

// asked is what may be in each field that is a number, where a message has it.
var asked = [...]struct {
	field       fields
	least, most int
}{
	{hasStream, 0, api.MaxStreams - 1},
	{hasEpoch, 1, api.MaxEpoch},
	{hasView, 0, api.MaxEpoch},
	{hasBase, 0, api.MaxLog},
	{hasLength, 0, api.MaxLog},
	{hasStamp, 0, api.MaxClock},
}

// fieldsOf tells what the message has, by its kind; false, if there is no such kind.
func fieldsOf(m api.Mail) (f fields, ok bool) {
	if m.Kind < api.MaPrepare || m.Kind > api.MaYield {
		return 0, false
	}
	f = kinds[m.Kind]
	if m.Kind == api.MaRefuse && m.Epoch == 0 {
		f &^= hasEpoch // as nothing was promised
	}
	return f, true
}

// allowNumbers tells whether the message's numbers are as asked, and 0 where it does not have them.
func (f fields) allowNumbers(m api.Mail) bool {
	l := [len(asked)]int{m.Stream, m.Epoch, m.View, m.Base, m.Length, m.Stamp}
	for i, a := range asked {
		if f&a.field == 0 && l[i] != 0 {
			return false
		}
		if f&a.field != 0 && (l[i] < a.least || l[i] > a.most) {
			return false
		}
	}
	return true
}

// allowEntries tells whether the message's entries are as asked, and none where it does not have them. They may be those
// that a record of a view may have from the same place on. Without a Base they are a whole log: no more than these are
// committed.
func (f fields) allowEntries(m api.Mail) bool {
	if f&hasEntries == 0 {
		return len(m.Entries) == 0
	}
	if f&hasBase == 0 && m.Length > len(m.Entries) {
		return false
	}
	r := api.Record{Kind: api.RecView, Stream: m.Stream, Epoch: m.Epoch, From: m.Base, Entries: m.Entries}
	return records.Check(r) == api.OK
}

// allowOrder tells whether the message's order may be, or is none where it does not have one.
func (f fields) allowOrder(o api.Order) bool {
	if f&hasOrder == 0 {
		return o == api.Order{}
	}
	return orders.Check(o) == api.OK
}

// allowAnswer tells whether the message's answer may be, or is none where it does not have one.
func (f fields) allowAnswer(a api.Answer) bool {
	if f&hasAnswer == 0 {
		return a == api.Answer{}
	}
	return a.ID >= 1 && a.ID <= maxID && a.Code >= api.Accepted && a.Code <= api.Malformed &&
		a.Version >= 0 && a.Version <= api.MaxLog
}
