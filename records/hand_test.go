package records

import (
	"encoding/binary"
	"math/rand"
	"reflect"
	"slices"
	"testing"

	"archipelago/api"
)

// The document's numbers, which the program is to have.
const (
	okay     = api.Errno(0)
	errArg   = api.Errno(2)
	errForm  = api.Errno(30)
	topEpoch = 1048576
	topID    = 2147483647
	topArg   = 1048576
	topLog   = 64
	topFeed  = 256
	maxFrame = 8192
)

// mayBe tells whether the record may be, by the chapter's table alone, kind by kind.
func mayBe(r api.Record) bool {
	stream := r.Stream >= 0 && r.Stream <= 3
	epoch := r.Epoch >= 1 && r.Epoch <= topEpoch
	noEntries, noFeed := len(r.Entries) == 0, len(r.Feed) == 0
	switch r.Kind {
	case 1:
		return stream && epoch && r.View == 0 && r.From == 0 && r.Length == 0 && noEntries && noFeed
	case 2:
		if r.From < 0 || r.From > topLog || len(r.Entries) > topLog-r.From {
			return false
		}
		return stream && epoch && r.View == 0 && r.Length == 0 && entriesMayBe(r) && noFeed
	case 3:
		return stream && r.Epoch == 0 && r.View == 0 && r.From == 0 && r.Length >= 0 && r.Length <= topLog && noEntries && noFeed
	case 4:
		if r.Epoch < 0 || r.Epoch > topEpoch || r.View < 0 || r.View > topEpoch {
			return false
		}
		if len(r.Entries) > topLog || r.Length < 0 || r.Length > len(r.Entries) {
			return false
		}
		return stream && r.From == 0 && entriesMayBe(r) && noFeed
	case 5:
		return r.Stream == 0 && r.Epoch == 0 && r.View == 0 && r.From == 0 && r.Length == 0 && noEntries && feedMayBe(r)
	}
	return false
}

// entriesMayBe tells whether each of the record's entries may be one of its stream.
func entriesMayBe(r api.Record) bool {
	for _, e := range r.Entries {
		o := e.Order
		order := o.ID >= 1 && o.ID <= topID && o.Stream >= 0 && o.Stream <= 3 && o.Expect >= -1 && o.Expect <= topID &&
			o.Kind >= 1 && o.Kind <= 4 && o.Arg >= -topArg && o.Arg <= topArg
		if e.Epoch < 1 || e.Epoch > topEpoch || !order || o.Stream != r.Stream {
			return false
		}
	}
	return true
}

// feedMayBe tells whether so many spots, and each of them, may be.
func feedMayBe(r api.Record) bool {
	for _, x := range r.Feed {
		if x.Stream < 0 || x.Stream > 3 || x.Index < 0 || x.Index > 63 {
			return false
		}
	}
	return len(r.Feed) <= topFeed
}

// numbersOf are the numbers of which a record's bytes are the marks, by the chapter's words.
func numbersOf(r api.Record) []int {
	l := []int{r.Kind, r.Stream, r.Epoch, r.View, r.From, r.Length, len(r.Entries)}
	for _, e := range r.Entries {
		l = append(l, e.Epoch, e.Order.ID, e.Order.Stream, e.Order.Expect, e.Order.Kind, e.Order.Arg)
	}
	l = append(l, len(r.Feed))
	for _, x := range r.Feed {
		l = append(l, x.Stream, x.Index)
	}
	return l
}

// marksOf are the ints' marks, one behind the other, by another hand than the program's.
func marksOf(l ...int) string {
	var b []byte
	for _, n := range l {
		b = binary.AppendVarint(b, int64(n))
	}
	return string(b)
}

// bytesOf are the record's bytes, without the package, also where it may not be.
func bytesOf(r api.Record) string {
	return marksOf(numbersOf(r)...)
}

// unmark are the numbers of which the whole text is the marks, one behind the other; false, if it is not.
func unmark(s string) (l []int, ok bool) {
	for rest := []byte(s); len(rest) > 0; {
		n, size := binary.Varint(rest)
		if size <= 0 {
			return nil, false
		}
		l = append(l, int(n))
		rest = rest[size:]
	}
	return l, marksOf(l...) == s
}

// readByHand is the record whose bytes these are, by another hand than the program's: all numbers first, and then what
// they say.
func readByHand(s string) (api.Record, bool) {
	l, ok := unmark(s)
	if !ok || len(l) < 8 {
		return api.Record{}, false
	}
	r := api.Record{Kind: l[0], Stream: l[1], Epoch: l[2], View: l[3], From: l[4], Length: l[5]}
	entries, rest := l[6], l[7:]
	for ; entries > 0 && len(rest) > 6; entries-- {
		o := api.Order{ID: rest[1], Stream: rest[2], Expect: rest[3], Kind: rest[4], Arg: rest[5]}
		r.Entries = append(r.Entries, api.Entry{Epoch: rest[0], Order: o})
		rest = rest[6:]
	}
	spots, rest := rest[0], rest[1:]
	for ; spots > 0 && len(rest) > 1; spots-- {
		r.Feed = append(r.Feed, api.Spot{Stream: rest[0], Index: rest[1]})
		rest = rest[2:]
	}
	if entries != 0 || spots != 0 || len(rest) != 0 || !mayBe(r) {
		return api.Record{}, false
	}
	return r, true
}

// equal tells whether two records are one; lists may be nil or empty.
func equal(a, b api.Record) bool {
	lists := slices.Equal(a.Entries, b.Entries) && slices.Equal(a.Feed, b.Feed)
	a.Entries, a.Feed, b.Entries, b.Feed = nil, nil, nil, nil
	return lists && reflect.DeepEqual(a, b)
}

// copyOf is the record with lists of its own.
func copyOf(r api.Record) api.Record {
	r.Entries, r.Feed = slices.Clone(r.Entries), slices.Clone(r.Feed)
	return r
}

// wantGood wants a record to be one that may be, with just these bytes, out of which it comes again.
func wantGood(t *testing.T, r api.Record, want string) {
	t.Helper()
	was := copyOf(r)
	if err := Check(r); err != okay {
		t.Fatalf("Check(%+v) = %d, want 0", r, err)
	}
	if s, err := Encode(r); s != want || err != okay {
		t.Fatalf("Encode(%+v) = %q %d, want %q 0", r, s, err, want)
	}
	if back, err := Decode(want); !equal(back, r) || err != okay {
		t.Fatalf("Decode(%q) = %+v %d, want %+v 0", want, back, err, r)
	}
	if len(want) >= maxFrame {
		t.Fatalf("%+v has %d bytes", r, len(want))
	}
	if !equal(r, was) {
		t.Fatalf("%+v became %+v", was, r)
	}
}

// wantBad wants a record to be one that may not be, and its marks the bytes of none.
func wantBad(t *testing.T, r api.Record) {
	t.Helper()
	was := copyOf(r)
	if err := Check(r); err != errArg {
		t.Fatalf("Check(%+v) = %d, want 2", r, err)
	}
	if s, err := Encode(r); s != "" || err != errArg {
		t.Fatalf("Encode(%+v) = %q %d, want none and 2", r, s, err)
	}
	wantNoRecord(t, bytesOf(r))
	if !equal(r, was) {
		t.Fatalf("%+v became %+v", was, r)
	}
}

// wantAsSaid wants of a record what the chapter's table says; it tells whether it may be.
func wantAsSaid(t *testing.T, r api.Record) bool {
	t.Helper()
	ok := mayBe(r)
	if ok {
		wantGood(t, r, bytesOf(r))
	} else {
		wantBad(t, r)
	}
	return ok
}

// wantNoRecord wants a text to be the bytes of no record.
func wantNoRecord(t *testing.T, s string) {
	t.Helper()
	if r, err := Decode(s); !equal(r, api.Record{}) || err != errForm {
		t.Fatalf("Decode(%q) = %+v %d, want none and 30", s, r, err)
	}
}

// wantAsRead wants Decode to tell of a text what the second hand reads; it tells whether that is a record.
func wantAsRead(t *testing.T, s string) bool {
	t.Helper()
	r, ok := readByHand(s)
	if ok {
		wantGood(t, r, s)
	} else {
		wantNoRecord(t, s)
	}
	return ok
}

// entry is an entry of that stream that may be, told from others by n.
func entry(stream, n int) api.Entry {
	return api.Entry{Epoch: n + 1, Order: api.Order{ID: 100 + n, Stream: stream, Expect: n - 1, Kind: 1 + n%4, Arg: 50 - 7*n}}
}

// entries are so many entries of that stream that may be.
func entries(stream, count int) []api.Entry {
	var l []api.Entry
	for n := range count {
		l = append(l, entry(stream, n))
	}
	return l
}

// greatEntry is an entry of stream 3 each of whose numbers is at its greatest, so that it has as many bytes as can be.
func greatEntry() api.Entry {
	return api.Entry{Epoch: topEpoch, Order: api.Order{ID: topID, Stream: 3, Expect: topID, Kind: 4, Arg: topArg}}
}

// spots are so many spots that may be, each stream's from 0 on, the streams by turns.
func spots(count int) []api.Spot {
	var l []api.Spot
	for n := range count {
		l = append(l, api.Spot{Stream: n % 4, Index: n / 4 % 64})
	}
	return l
}

// plain are records of each kind that may be, of which few numbers are at an edge.
func plain() []api.Record {
	return []api.Record{
		{Kind: 1, Stream: 2, Epoch: 3},
		{Kind: 2, Stream: 1, Epoch: 300, From: 7, Entries: entries(1, 3)},
		{Kind: 2, Stream: 0, Epoch: 9, From: 64},
		{Kind: 3, Stream: 2, Length: 5},
		{Kind: 4, Stream: 3, Epoch: 70, View: 66, Length: 2, Entries: entries(3, 4)},
		{Kind: 4, Stream: 1},
		{Kind: 5, Feed: spots(6)},
		{Kind: 5},
	}
}

// randomEntry is an entry of that stream that may be, its numbers of any size.
func randomEntry(r *rand.Rand, stream int) api.Entry {
	up := func(least, most int) int {
		if r.Intn(8) == 0 {
			return []int{least, most}[r.Intn(2)]
		}
		return least + r.Intn(most-least+1)>>r.Intn(32)
	}
	o := api.Order{ID: up(1, topID), Stream: stream, Expect: up(-1, topID), Kind: up(1, 4), Arg: up(-topArg, topArg)}
	return api.Entry{Epoch: up(1, topEpoch), Order: o}
}

// randomEntries are at most so many entries of that stream that may be.
func randomEntries(r *rand.Rand, stream, most int) []api.Entry {
	count := r.Intn(most + 1)
	if r.Intn(4) != 0 {
		count = min(count, r.Intn(4))
	}
	l := make([]api.Entry, count)
	for i := range l {
		l[i] = randomEntry(r, stream)
	}
	return l
}

// randomRecord is a record that may be.
func randomRecord(r *rand.Rand) api.Record {
	x := api.Record{Kind: 1 + r.Intn(5), Stream: r.Intn(4)}
	epoch := func(least int) int { return least + r.Intn(topEpoch+1-least)>>r.Intn(24) }
	switch x.Kind {
	case 1:
		x.Epoch = epoch(1)
	case 2:
		x.Epoch, x.From = epoch(1), r.Intn(topLog+1)
		x.Entries = randomEntries(r, x.Stream, topLog-x.From)
	case 3:
		x.Length = r.Intn(topLog + 1)
	case 4:
		x.Epoch, x.View = epoch(0), epoch(0)
		x.Entries = randomEntries(r, x.Stream, topLog)
		x.Length = r.Intn(len(x.Entries) + 1)
	case 5:
		x.Stream = 0
		for range r.Intn(topFeed+1) >> r.Intn(9) {
			x.Feed = append(x.Feed, api.Spot{Stream: r.Intn(4), Index: r.Intn(64)})
		}
	}
	return x
}
