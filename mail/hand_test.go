package mail

import (
	"encoding/binary"
	"math"
	"math/rand"
	"reflect"
	"slices"
	"testing"

	"archipelago/api"
)

// The document's numbers, which the program is to have.
const (
	okay     = api.Errno(0)
	errArg   = api.Errno(2)
	errForm  = api.Errno(30)
	topEpoch = 1048576
	topClock = 1073741824
	topID    = 2147483647
	topArg   = 1048576
	topLog   = 64
)

// mayBe tells whether the message may be among n sites, by the chapter's table alone, kind by kind.
func mayBe(m api.Mail, n int) bool {
	if n < 2 || n > 7 || m.From < 0 || m.From >= n || m.To < 0 || m.To >= n {
		return false
	}
	if m.Stream < 0 || m.Stream > 3 || m.Epoch < 0 || m.Epoch > topEpoch {
		return false
	}
	if m.Stamp < 0 || m.Stamp > topClock || m.Length < 0 || m.Length > topLog {
		return false
	}
	none := bare(m)
	epoch := m.Epoch > 0
	switch m.Kind {
	case 1:
		none.Stream, none.Epoch, none.Stamp = m.Stream, m.Epoch, m.Stamp
		return epoch && same(m, none)
	case 2:
		none.Stream, none.Epoch, none.Stamp, none.View, none.Length = m.Stream, m.Epoch, m.Stamp, m.View, m.Length
		none.Entries = m.Entries
		return epoch && m.View >= 0 && m.View <= topEpoch && m.Length <= len(m.Entries) && entriesMayBe(m, topLog) && same(m, none)
	case 3:
		none.Stream, none.Epoch = m.Stream, m.Epoch
		return same(m, none)
	case 4:
		none.Stream, none.Epoch, none.Stamp, none.Length, none.Base = m.Stream, m.Epoch, m.Stamp, m.Length, m.Base
		none.Entries = m.Entries
		return epoch && m.Base >= 0 && m.Base <= topLog && entriesMayBe(m, topLog-m.Base) && same(m, none)
	case 5:
		none.Stream, none.Epoch, none.Length, none.Stamp = m.Stream, m.Epoch, m.Length, m.Stamp
		return epoch && same(m, none)
	case 6:
		none.Stream, none.Epoch, none.Length = m.Stream, m.Epoch, m.Length
		return epoch && same(m, none)
	case 7:
		none.Order = m.Order
		return orderMayBe(m.Order) && same(m, none)
	case 8:
		none.Stream, none.Answer = m.Stream, m.Answer
		a := m.Answer
		return a.ID >= 1 && a.ID <= topID && a.Code >= 1 && a.Code <= 7 && a.Version >= 0 && a.Version <= topLog && same(m, none)
	case 9, 10:
		none.Stream, none.Epoch = m.Stream, m.Epoch
		return epoch && same(m, none)
	}
	return false
}

// bare is a message with just what all kinds have.
func bare(m api.Mail) api.Mail {
	return api.Mail{Kind: m.Kind, From: m.From, To: m.To}
}

// orderMayBe tells whether the order may be, by chapter 9.
func orderMayBe(o api.Order) bool {
	return o.ID >= 1 && o.ID <= topID && o.Stream >= 0 && o.Stream <= 3 && o.Expect >= -1 && o.Expect <= topID &&
		o.Kind >= 1 && o.Kind <= 4 && o.Arg >= -topArg && o.Arg <= topArg
}

// entriesMayBe tells whether there are at most so many entries, each of which may be one of the message's stream.
func entriesMayBe(m api.Mail, most int) bool {
	for _, e := range m.Entries {
		if e.Epoch < 1 || e.Epoch > topEpoch || e.Order.Stream != m.Stream || !orderMayBe(e.Order) {
			return false
		}
	}
	return len(m.Entries) <= most
}

// numbersByHand are the numbers of which a message's bytes are the marks, by the chapter's words.
func numbersByHand(m api.Mail) []int {
	l := []int{m.Kind, m.From, m.To, m.Stream, m.Epoch, m.View, m.Base, m.Length, m.Stamp, len(m.Entries)}
	for _, e := range m.Entries {
		l = append(l, e.Epoch, e.Order.ID, e.Order.Stream, e.Order.Expect, e.Order.Kind, e.Order.Arg)
	}
	l = append(l, m.Order.ID, m.Order.Stream, m.Order.Expect, m.Order.Kind, m.Order.Arg)
	return append(l, m.Answer.ID, m.Answer.Code, m.Answer.Version)
}

// marksOf are the ints' marks, one behind the other, by another hand than the program's.
func marksOf(l ...int) string {
	var b []byte
	for _, n := range l {
		b = binary.AppendVarint(b, int64(n))
	}
	return string(b)
}

// bytesOf are the message's bytes, without the package, also where it may not be.
func bytesOf(m api.Mail) string {
	return marksOf(numbersByHand(m)...)
}

// readByHand is the message among n sites whose bytes these are, by another hand than the program's: field by field, each
// where it stands, and then the whole once more from these.
func readByHand(s string, n int) (m api.Mail, ok bool) {
	rest := []byte(s)
	next := func() int {
		x, size := binary.Varint(rest)
		if size <= 0 {
			rest = nil
			return 0
		}
		rest = rest[size:]
		return int(x)
	}
	order := func() (o api.Order) {
		o.ID, o.Stream, o.Expect, o.Kind, o.Arg = next(), next(), next(), next(), next()
		return o
	}
	m.Kind, m.From, m.To = next(), next(), next()
	m.Stream, m.Epoch, m.View, m.Base, m.Length, m.Stamp = next(), next(), next(), next(), next(), next()
	for count := next(); count > 0 && len(rest) > 0; count-- {
		m.Entries = append(m.Entries, api.Entry{Epoch: next(), Order: order()})
	}
	m.Order = order()
	m.Answer.ID, m.Answer.Code, m.Answer.Version = next(), next(), next()
	if bytesOf(m) != s || !mayBe(m, n) {
		return api.Mail{}, false
	}
	return m, true
}

// same tells whether two messages are one; lists may be nil or empty.
func same(a, b api.Mail) bool {
	lists := slices.Equal(a.Entries, b.Entries)
	a.Entries, b.Entries = nil, nil
	return lists && reflect.DeepEqual(a, b)
}

// copyOf is the message with a list of its own.
func copyOf(m api.Mail) api.Mail {
	m.Entries = slices.Clone(m.Entries)
	return m
}

// wantGood wants a message to be one that may be among n sites, with just these bytes, out of which it comes again.
func wantGood(t *testing.T, m api.Mail, n int, want string) {
	t.Helper()
	was := copyOf(m)
	if err := Check(m, n); err != okay {
		t.Fatalf("Check(%+v, %d) = %d, want 0", m, n, err)
	}
	if s, err := Encode(m, n); s != want || err != okay {
		t.Fatalf("Encode(%+v, %d) = %q %d, want %q 0", m, n, s, err, want)
	}
	if back, err := Decode(want, n); !same(back, m) || err != okay {
		t.Fatalf("Decode(%q, %d) = %+v %d, want %+v 0", want, n, back, err, m)
	}
	if !same(m, was) {
		t.Fatalf("%+v became %+v", was, m)
	}
}

// wantBad wants a message to be one that may not be among n sites, and its marks the bytes of none.
func wantBad(t *testing.T, m api.Mail, n int) {
	t.Helper()
	was := copyOf(m)
	if err := Check(m, n); err != errArg {
		t.Fatalf("Check(%+v, %d) = %d, want 2", m, n, err)
	}
	if s, err := Encode(m, n); s != "" || err != errArg {
		t.Fatalf("Encode(%+v, %d) = %q %d, want none and 2", m, n, s, err)
	}
	wantNoMail(t, bytesOf(m), n)
	if !same(m, was) {
		t.Fatalf("%+v became %+v", was, m)
	}
}

// wantAsSaid wants of a message what the chapter's table says; it tells whether it may be.
func wantAsSaid(t *testing.T, m api.Mail, n int) bool {
	t.Helper()
	ok := mayBe(m, n)
	if ok {
		wantGood(t, m, n, bytesOf(m))
	} else {
		wantBad(t, m, n)
	}
	return ok
}

// wantNoMail wants a text to be the bytes of no message that may be among n sites.
func wantNoMail(t *testing.T, s string, n int) {
	t.Helper()
	if m, err := Decode(s, n); !same(m, api.Mail{}) || err != errForm {
		t.Fatalf("Decode(%q, %d) = %+v %d, want none and 30", s, n, m, err)
	}
}

// wantAsRead wants Decode to tell of a text what the second hand reads; it tells whether that is a message.
func wantAsRead(t *testing.T, s string, n int) bool {
	t.Helper()
	m, ok := readByHand(s, n)
	if ok {
		wantGood(t, m, n, s)
	} else {
		wantNoMail(t, s, n)
	}
	return ok
}

// entry is an entry of that stream that may be, told from others by i.
func entry(stream, i int) api.Entry {
	return api.Entry{Epoch: i + 1, Order: api.Order{ID: 100 + i, Stream: stream, Expect: i - 1, Kind: 1 + i%4, Arg: 50 - 7*i}}
}

// entries are so many entries of that stream that may be.
func entries(stream, count int) []api.Entry {
	var l []api.Entry
	for i := range count {
		l = append(l, entry(stream, i))
	}
	return l
}

// someOrder is an order that may be.
func someOrder() api.Order {
	return api.Order{ID: 300, Stream: 3, Expect: 4, Kind: 2, Arg: -70}
}

// plain are messages of each kind that may be among 3 sites, of which few numbers are at an edge.
func plain() []api.Mail {
	return []api.Mail{
		{Kind: 1, From: 1, To: 2, Stream: 2, Epoch: 3, Stamp: 70},
		{Kind: 2, From: 2, To: 0, Stream: 3, Epoch: 300, View: 299, Length: 2, Stamp: 71, Entries: entries(3, 4)},
		{Kind: 2, From: 0, To: 1, Stream: 1, Epoch: 5},
		{Kind: 3, From: 1, To: 0, Stream: 1, Epoch: 8},
		{Kind: 3, From: 2, To: 1, Stream: 3},
		{Kind: 4, From: 0, To: 2, Stream: 1, Epoch: 9, Base: 7, Length: 5, Stamp: 72, Entries: entries(1, 3)},
		{Kind: 4, From: 2, To: 1, Stream: 2, Epoch: 6, Base: 64, Length: 64},
		{Kind: 5, From: 1, To: 0, Stream: 2, Epoch: 3, Length: 1, Stamp: 5},
		{Kind: 6, From: 2, To: 1, Stream: 3, Epoch: 10, Length: 33},
		{Kind: 7, From: 0, To: 1, Order: someOrder()},
		{Kind: 8, From: 1, To: 2, Stream: 2, Answer: api.Answer{ID: 400, Code: 3, Version: 20}},
		{Kind: 9, From: 2, To: 0, Stream: 1, Epoch: 11},
		{Kind: 10, From: 0, To: 1, Stream: 3, Epoch: 12},
	}
}

// allEdges are ints around all places at which anything that the chapter names begins or ends, those at which a mark has
// a byte more, and those that would be small again if bits at the top were lost.
func allEdges() []int {
	l := []int{math.MinInt, math.MinInt + 1, math.MaxInt - 1, math.MaxInt}
	for _, at := range []int{0, 3, 7, 64, 8191, topEpoch, topClock, topID, math.MaxUint32} {
		for n := at - 2; n <= at+2; n++ {
			l = append(l, n, -n)
		}
	}
	for bits := 6; bits < 63; bits++ {
		l = append(l, 1<<bits-1, 1<<bits, 1<<bits+1, 1<<bits+3, -1<<bits-1, -1<<bits)
	}
	slices.Sort(l)
	return slices.Compact(l)
}

// randomIn is a number from least to most: of any size, and now and then one of these two.
func randomIn(r *rand.Rand, least, most int) int {
	if r.Intn(8) == 0 {
		return []int{least, most}[r.Intn(2)]
	}
	return least + r.Intn(most-least+1)>>r.Intn(32)
}

// randomOrder is an order of that stream that may be.
func randomOrder(r *rand.Rand, stream int) api.Order {
	o := api.Order{ID: randomIn(r, 1, topID), Stream: stream, Expect: randomIn(r, -1, topID), Kind: randomIn(r, 1, 4)}
	o.Arg = randomIn(r, -topArg, topArg)
	return o
}

// randomEntries are at most so many entries of that stream that may be.
func randomEntries(r *rand.Rand, stream, most int) []api.Entry {
	count := r.Intn(most + 1)
	if r.Intn(4) != 0 {
		count = min(count, r.Intn(4))
	}
	l := make([]api.Entry, count)
	for i := range l {
		l[i] = api.Entry{Epoch: randomIn(r, 1, topEpoch), Order: randomOrder(r, stream)}
	}
	return l
}

// randomMail is a message that may be among n sites.
func randomMail(r *rand.Rand, n int) api.Mail {
	m := api.Mail{Kind: 1 + r.Intn(10), From: r.Intn(n), To: r.Intn(n), Stream: r.Intn(4)}
	if m.Kind != 7 && m.Kind != 8 {
		m.Epoch = randomIn(r, 1, topEpoch)
	}
	if m.Kind == 1 || m.Kind == 2 || m.Kind == 4 || m.Kind == 5 {
		m.Stamp = randomIn(r, 0, topClock)
	}
	if m.Kind == 4 || m.Kind == 5 || m.Kind == 6 {
		m.Length = randomIn(r, 0, topLog)
	}
	switch m.Kind {
	case 2:
		m.View, m.Entries = randomIn(r, 0, topEpoch), randomEntries(r, m.Stream, topLog)
		m.Length = r.Intn(len(m.Entries) + 1)
	case 3:
		m.Epoch *= r.Intn(2)
	case 4:
		m.Base = randomIn(r, 0, topLog)
		m.Entries = randomEntries(r, m.Stream, topLog-m.Base)
	case 7:
		m.Stream, m.Order = 0, randomOrder(r, m.Stream)
	case 8:
		m.Answer = api.Answer{ID: randomIn(r, 1, topID), Code: randomIn(r, 1, 7), Version: randomIn(r, 0, topLog)}
	}
	return m
}
