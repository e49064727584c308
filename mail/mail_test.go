package mail

import (
	"math"
	"math/rand"
	"testing"

	"archipelago/api"
)

// field is a way to a number of a message, and what the kinds that have it ask of it.
type field struct {
	name        string
	of          func(m *api.Mail) *int
	least, most int
	kinds       []int // that have it
}

// numberFields are the ways to all of a message's own numbers but the kind and the sites.
func numberFields() []field {
	return []field{
		{"Stream", func(m *api.Mail) *int { return &m.Stream }, 0, 3, []int{1, 2, 3, 4, 5, 6, 8, 9, 10}},
		{"Epoch", func(m *api.Mail) *int { return &m.Epoch }, 1, topEpoch, []int{1, 2, 4, 5, 6, 9, 10}},
		{"Epoch", func(m *api.Mail) *int { return &m.Epoch }, 0, topEpoch, []int{3}},
		{"View", func(m *api.Mail) *int { return &m.View }, 0, topEpoch, []int{2}},
		{"Base", func(m *api.Mail) *int { return &m.Base }, 0, 64, []int{4}},
		{"Length", func(m *api.Mail) *int { return &m.Length }, 0, 64, []int{2, 4, 5, 6}},
		{"Stamp", func(m *api.Mail) *int { return &m.Stamp }, 0, topClock, []int{1, 2, 4, 5}},
	}
}

// orderFields are the ways to the numbers of a message's order.
func orderFields() []field {
	return []field{
		{"Order.ID", func(m *api.Mail) *int { return &m.Order.ID }, 1, topID, []int{7}},
		{"Order.Stream", func(m *api.Mail) *int { return &m.Order.Stream }, 0, 3, []int{7}},
		{"Order.Expect", func(m *api.Mail) *int { return &m.Order.Expect }, -1, topID, []int{7}},
		{"Order.Kind", func(m *api.Mail) *int { return &m.Order.Kind }, 1, 4, []int{7}},
		{"Order.Arg", func(m *api.Mail) *int { return &m.Order.Arg }, -topArg, topArg, []int{7}},
	}
}

// answerFields are the ways to the numbers of a message's answer.
func answerFields() []field {
	return []field{
		{"Answer.ID", func(m *api.Mail) *int { return &m.Answer.ID }, 1, topID, []int{8}},
		{"Answer.Code", func(m *api.Mail) *int { return &m.Answer.Code }, 1, 7, []int{8}},
		{"Answer.Version", func(m *api.Mail) *int { return &m.Answer.Version }, 0, 64, []int{8}},
	}
}

// entryFields are the ways to the numbers, but the stream, of the entry at that place.
func entryFields(place int) []field {
	both := []int{2, 4}
	return []field{
		{"an entry's Epoch", func(m *api.Mail) *int { return &m.Entries[place].Epoch }, 1, topEpoch, both},
		{"an entry's ID", func(m *api.Mail) *int { return &m.Entries[place].Order.ID }, 1, topID, both},
		{"an entry's Expect", func(m *api.Mail) *int { return &m.Entries[place].Order.Expect }, -1, topID, both},
		{"an entry's Kind", func(m *api.Mail) *int { return &m.Entries[place].Order.Kind }, 1, 4, both},
		{"an entry's Arg", func(m *api.Mail) *int { return &m.Entries[place].Order.Arg }, -topArg, topArg, both},
	}
}

// allFields are the ways to all numbers of a message but the kind, the sites and the entries.
func allFields() []field {
	return append(append(numberFields(), orderFields()...), answerFields()...)
}

// siteFields are the ways to the sites of a message.
func siteFields() []field {
	return []field{
		{name: "From", of: func(m *api.Mail) *int { return &m.From }},
		{name: "To", of: func(m *api.Mail) *int { return &m.To }},
	}
}

// has tells whether one of these kinds is that one.
func has(kinds []int, kind int) bool {
	for _, k := range kinds {
		if k == kind {
			return true
		}
	}
	return false
}

// kindHas tells whether the kind has the field of that name.
func kindHas(kind int, name string) bool {
	for _, f := range allFields() {
		if f.name == name && has(f.kinds, kind) {
			return true
		}
	}
	return false
}

// P11.1: api has the document's numbers.
func TestNumbers(t *testing.T) {
	if api.OK != okay || api.ErrArg != errArg || api.ErrForm != errForm {
		t.Errorf("OK, ErrArg, ErrForm = %d, %d, %d, want 0, 2, 30", api.OK, api.ErrArg, api.ErrForm)
	}
	if api.MaxStreams != 4 || api.MaxLog != topLog || api.MaxEpoch != topEpoch || api.MaxClock != topClock {
		t.Errorf("MaxStreams, MaxLog, MaxEpoch, MaxClock = %d, %d, %d, %d", api.MaxStreams, api.MaxLog, api.MaxEpoch, api.MaxClock)
	}
	kinds := [10]int{api.MaPrepare, api.MaPromise, api.MaRefuse, api.MaAppend, api.MaAck, api.MaGap, api.MaForward,
		api.MaReply, api.MaRelease, api.MaYield}
	if kinds != [10]int{1, 2, 3, 4, 5, 6, 7, 8, 9, 10} {
		t.Errorf("the kinds are %v, want 1 to 10", kinds)
	}
	if api.Accepted != 1 || api.Malformed != 7 || api.MinSites != 2 || api.MaxSites != 7 {
		t.Errorf("Accepted, Malformed, MinSites, MaxSites = %d, %d, %d, %d", api.Accepted, api.Malformed, api.MinSites, api.MaxSites)
	}
}

// P11.1: the chapter's examples.
func TestExamples(t *testing.T) {
	ack := api.Mail{Kind: api.MaAck, From: 1, To: 0, Stream: 2, Epoch: 3, Length: 1, Stamp: 5}
	want := "\x0a\x02\x00\x04\x06\x00\x00\x02\x0a\x00\x00\x00\x00\x00\x00\x00\x00\x00"
	wantGood(t, ack, 3, want)
	wantGood(t, ack, 2, want)
	wantBad(t, ack, 1)
	to := ack
	to.To = 3
	wantBad(t, to, 3)
	wantGood(t, to, 4, "\x0a\x02\x06\x04\x06\x00\x00\x02\x0a\x00\x00\x00\x00\x00\x00\x00\x00\x00")
	view := ack
	view.View = 1
	wantBad(t, view, 3)
	wantBad(t, api.Mail{Kind: api.MaReply, Answer: api.Answer{ID: 1, Code: 8}}, 3)
	wantBad(t, api.Mail{Kind: api.MaForward, Stream: 3, Order: someOrder()}, 3)
	wantGood(t, api.Mail{Kind: api.MaForward, Order: someOrder()}, 3, marksOf(7, 0, 0, 0, 0, 0, 0, 0, 0, 0, 300, 3, 4, 2, -70, 0, 0, 0))
}

// P11.1: bytes written down by hand, of each kind, such that no two numbers can be taken for one another.
func TestBytesByHand(t *testing.T) {
	o := api.Order{ID: 7, Stream: 1, Expect: -1, Kind: api.OrAdd, Arg: 100}
	p := api.Order{ID: 300, Stream: 1, Expect: 2, Kind: api.OrTake, Arg: -1 << 20}
	l := []api.Entry{{Epoch: 9, Order: o}, {Epoch: 8, Order: p}}
	inBytes := "\x04" + "\x12\x0e\x02\x01\x04\xc8\x01" + "\x10\xd8\x04\x02\x04\x06\xff\xff\x7f"
	none, noOrder, noAnswer := "\x00", "\x00\x00\x00\x00\x00", "\x00\x00\x00"
	behind := none + noOrder + noAnswer
	wantGood(t, api.Mail{Kind: 1, From: 4, To: 1, Stream: 3, Epoch: 1 << 20, Stamp: 1 << 30}, 5,
		"\x02\x08\x02\x06\x80\x80\x80\x01\x00\x00\x00\x80\x80\x80\x80\x08"+behind)
	wantGood(t, api.Mail{Kind: 2, From: 6, To: 5, Stream: 1, Epoch: 11, View: 10, Length: 2, Stamp: 64, Entries: l}, 7,
		"\x04\x0c\x0a\x02\x16\x14\x00\x04\x80\x01"+inBytes+noOrder+noAnswer)
	wantGood(t, api.Mail{Kind: 3, From: 0, To: 1, Stream: 2, Epoch: 0}, 2, "\x06\x00\x02\x04\x00\x00\x00\x00\x00"+behind)
	wantGood(t, api.Mail{Kind: 4, From: 2, To: 0, Stream: 1, Epoch: 15, Base: 62, Length: 64, Stamp: 3, Entries: l}, 3,
		"\x08\x04\x00\x02\x1e\x00\x7c\x80\x01\x06"+inBytes+noOrder+noAnswer)
	wantGood(t, api.Mail{Kind: 5, From: 1, To: 2, Stream: 3, Epoch: 4, Length: 9, Stamp: 5}, 3, "\x0a\x02\x04\x06\x08\x00\x00\x12\x0a"+behind)
	wantGood(t, api.Mail{Kind: 6, From: 1, To: 2, Stream: 3, Epoch: 4, Length: 9}, 3, "\x0c\x02\x04\x06\x08\x00\x00\x12\x00"+behind)
	wantGood(t, api.Mail{Kind: 7, From: 1, To: 2, Order: p}, 3,
		"\x0e\x02\x04\x00\x00\x00\x00\x00\x00\x00"+"\xd8\x04\x02\x04\x06\xff\xff\x7f"+noAnswer)
	wantGood(t, api.Mail{Kind: 8, From: 1, To: 2, Stream: 3, Answer: api.Answer{ID: 70, Code: 6, Version: 5}}, 3,
		"\x10\x02\x04\x06\x00\x00\x00\x00\x00"+none+noOrder+"\x8c\x01\x0c\x0a")
	wantGood(t, api.Mail{Kind: 9, From: 1, To: 2, Stream: 3, Epoch: 4}, 3, "\x12\x02\x04\x06\x08\x00\x00\x00\x00"+behind)
	wantGood(t, api.Mail{Kind: 10, From: 1, To: 2, Stream: 3, Epoch: 4}, 3, "\x14\x02\x04\x06\x08\x00\x00\x00\x00"+behind)
}

// P11.1, P11.2: of messages of each kind each number at all edges; where the kind does not have it, it may be 0 alone.
func TestEachNumberAtItsEdges(t *testing.T) {
	edges := allEdges()
	for _, m := range plain() {
		for _, f := range append(allFields(), siteFields()...) {
			for _, x := range edges {
				c := copyOf(m)
				*f.of(&c) = x
				wantAsSaid(t, c, 3)
			}
		}
	}
}

// P11.1: what each number of each kind that has it may be, written down once more: from the least to the greatest, and not
// one less or one more.
func TestWhatEachKindMayHave(t *testing.T) {
	asked := 0
	for _, m := range plain() {
		for _, f := range allFields() {
			if !has(f.kinds, m.Kind) || f.name == "Stream" && len(m.Entries) > 0 {
				continue
			}
			most := f.most
			if f.name == "Length" && m.Kind == 2 {
				most = len(m.Entries)
			}
			if f.name == "Base" {
				most -= len(m.Entries)
			}
			for _, x := range []int{f.least - 1, f.least, f.least + 1, most - 1, most, most + 1, math.MinInt, math.MaxInt} {
				c := copyOf(m)
				*f.of(&c) = x
				if good := x >= f.least && x <= most; wantAsSaid(t, c, 3) != good {
					t.Fatalf("%s %d of %+v: want %v", f.name, x, m, good)
				}
				asked++
			}
		}
	}
	if asked < 300 {
		t.Errorf("only %d were asked", asked)
	}
}

// P11.1: no epoch but that of a refusal may be 0.
func TestEpochOfNone(t *testing.T) {
	for _, m := range plain() {
		if !kindHas(m.Kind, "Epoch") {
			continue
		}
		m.Epoch = 0
		if wantAsSaid(t, m, 3) != (m.Kind == 3) {
			t.Fatalf("%+v: not as wanted", m)
		}
	}
	for _, x := range []int{-1, 1, topEpoch, topEpoch + 1} {
		m := api.Mail{Kind: api.MaRefuse, Epoch: x}
		if wantAsSaid(t, m, 2) != (x == 1 || x == topEpoch) {
			t.Fatalf("a refusal of the epoch %d: not as wanted", x)
		}
	}
}

// P11.1: what a kind does not have makes it none: each such number at 1 and at others, and entries.
func TestWhatAKindDoesNotHave(t *testing.T) {
	for _, m := range plain() {
		for _, f := range allFields() {
			if kindHas(m.Kind, f.name) {
				continue
			}
			for _, x := range []int{1, 2, 3, 63, 64, topEpoch, -1, math.MinInt, math.MaxInt, 1 << 32} {
				c := copyOf(m)
				*f.of(&c) = x
				wantBad(t, c, 3)
			}
		}
		if m.Kind != 2 && m.Kind != 4 {
			for _, count := range []int{1, 2, 64, 65, 300} {
				c := copyOf(m)
				c.Entries = entries(m.Stream, count)
				wantBad(t, c, 3)
			}
		}
		if m.Kind != 7 {
			c := copyOf(m)
			c.Order = api.Order{ID: 1, Stream: m.Stream, Expect: -1, Kind: 1, Arg: 1}
			wantBad(t, c, 3)
		}
		if m.Kind != 8 {
			c := copyOf(m)
			c.Answer = api.Answer{ID: 1, Code: 1, Version: 1}
			wantBad(t, c, 3)
		}
	}
}

// P11.1: a forward's order may be any that may be, of any stream, and none that may not; the message has no other stream.
func TestForwards(t *testing.T) {
	for stream := -1; stream <= 4; stream++ {
		o := someOrder()
		o.Stream = stream
		if wantAsSaid(t, api.Mail{Kind: 7, From: 1, To: 0, Order: o}, 2) != (stream >= 0 && stream <= 3) {
			t.Fatalf("a forward of an order of the stream %d: not as wanted", stream)
		}
		for of := -1; of <= 4; of++ {
			if wantAsSaid(t, api.Mail{Kind: 7, From: 1, To: 0, Stream: of, Order: o}, 2) != (of == 0 && stream >= 0 && stream <= 3) {
				t.Fatalf("a forward of the stream %d, with an order of %d: not as wanted", of, stream)
			}
		}
	}
	wantBad(t, api.Mail{Kind: 7}, 2)
	for kind := range 11 {
		wantBad(t, api.Mail{Kind: kind, Epoch: 1, Order: someOrder()}, 2)
	}
}

// P11.1: an answer of each code, and others; of each version, and others.
func TestAnswers(t *testing.T) {
	for code := -3; code <= 12; code++ {
		for version := -2; version <= 67; version++ {
			m := api.Mail{Kind: 8, From: 1, Stream: 1, Answer: api.Answer{ID: 9, Code: code, Version: version}}
			if wantAsSaid(t, m, 2) != (code >= 1 && code <= 7 && version >= 0 && version <= 64) {
				t.Fatalf("a reply of the code %d and the version %d: not as wanted", code, version)
			}
		}
	}
	wantBad(t, api.Mail{Kind: 8}, 2)
	wantBad(t, api.Mail{Kind: 8, Stream: 1}, 2)
}

// P11.1: all kinds that there are, and others, with what each has.
func TestKinds(t *testing.T) {
	for _, m := range plain() {
		wantGood(t, m, 3, bytesOf(m))
		for _, kind := range append(allEdges(), -11, -10, 5, 8, 9, 10, 11, 12, 13, 15, 16, 17) {
			c := copyOf(m)
			c.Kind = kind
			wantAsSaid(t, c, 3)
		}
		for _, kind := range []int{math.MinInt, -1, 0, 11, 12, math.MaxInt} {
			c := copyOf(m)
			c.Kind = kind
			wantBad(t, c, 3)
		}
	}
	for _, kind := range allEdges() {
		if m := (api.Mail{Kind: kind}); wantAsSaid(t, m, 3) != (kind == 3) {
			t.Fatalf("just the kind %d: not as wanted", kind)
		}
	}
}

// P11.1: From and To at all numbers, among all numbers of sites.
func TestSites(t *testing.T) {
	for n := -2; n <= 12; n++ {
		for from := -2; from <= 10; from++ {
			for to := -2; to <= 10; to++ {
				for _, m := range plain() {
					m.From, m.To = from, to
					good := n >= 2 && n <= 7 && from >= 0 && from < n && to >= 0 && to < n
					if wantAsSaid(t, m, n) != good {
						t.Fatalf("%+v among %d sites: want %v", m, n, good)
					}
				}
			}
		}
	}
}

// P11.1: numbers of sites at all edges: just those from 2 to 7 are so many sites.
func TestHowManySites(t *testing.T) {
	for _, n := range append(allEdges(), 1, 2, 7, 8, 1<<32+2, 1<<32+7, math.MinInt+2) {
		for _, m := range plain() {
			m.From, m.To = 0, 0
			if wantAsSaid(t, m, n) != (n >= 2 && n <= 7) {
				t.Fatalf("%+v among %d sites: not as wanted", m, n)
			}
			m.From, m.To = n-1, n-1
			if wantAsSaid(t, m, n) != (n >= 2 && n <= 7) {
				t.Fatalf("%+v among %d sites: not as wanted", m, n)
			}
			m.To = n
			wantBad(t, m, n)
		}
	}
}

// P11.1: Base and as many entries as there are: together at most 64, whichever of both has them, whatever is committed.
func TestBaseAndEntries(t *testing.T) {
	for count := range 67 {
		for together := count; together <= 70; together++ {
			m := api.Mail{Kind: 4, From: 1, Stream: 2, Epoch: 5, Base: together - count, Length: (7 * together) % 65, Entries: entries(2, count)}
			if good := together <= 64; wantAsSaid(t, m, 2) != good {
				t.Fatalf("Base %d and %d entries: want %v", m.Base, count, good)
			}
		}
	}
	for _, base := range []int{-1, -64, math.MinInt, math.MaxInt, math.MaxInt - 63, math.MaxInt - 64} {
		for _, count := range []int{0, 1, 2, 63, 64, 65} {
			wantBad(t, api.Mail{Kind: 4, Epoch: 5, Base: base, Entries: entries(0, count)}, 2)
		}
	}
}

// P11.1: what is committed of an append is from 0 to 64, whether so many entries are in it or not; of a promise no more
// than there are.
func TestLengthAndEntries(t *testing.T) {
	for count := range 67 {
		for length := -2; length <= 68; length++ {
			m := api.Mail{Kind: 2, From: 1, Stream: 1, Epoch: 90, View: 80, Length: length, Entries: entries(1, count)}
			good := count <= 64 && length >= 0 && length <= count
			if wantAsSaid(t, m, 2) != good {
				t.Fatalf("Length %d of a promise with %d entries: want %v", length, count, good)
			}
			m.Kind, m.View = 4, 0
			good = count <= 64 && length >= 0 && length <= 64
			if wantAsSaid(t, m, 2) != good {
				t.Fatalf("Length %d of an append with %d entries: want %v", length, count, good)
			}
		}
	}
}

// P11.1: as many entries as may be, one more, and many more; and none, nil or not.
func TestHowManyThereAre(t *testing.T) {
	for _, count := range []int{0, 1, 2, 63, 64, 65, 66, 128, 256, 1024, 70000} {
		l := make([]api.Entry, count)
		for i := range l {
			l[i] = api.Entry{Epoch: 1 + i%9, Order: api.Order{ID: 1 + i, Stream: 3, Expect: -1, Kind: 2, Arg: i}}
		}
		for _, kind := range []int{2, 4} {
			if wantAsSaid(t, api.Mail{Kind: kind, From: 1, Stream: 3, Epoch: 1, Entries: l}, 2) != (count <= 64) {
				t.Fatalf("%d entries of the kind %d: not as wanted", count, kind)
			}
		}
	}
	for _, m := range plain() {
		if len(m.Entries) == 0 {
			m.Entries = nil
			wantGood(t, m, 3, bytesOf(m))
			m.Entries = []api.Entry{}
			wantGood(t, m, 3, bytesOf(m))
			m.Entries = make([]api.Entry, 0, 70)
			wantGood(t, m, 3, bytesOf(m))
		}
	}
}

// P11.1: at each place of three entries one with one number at all edges, or of another stream.
func TestEachEntryAtItsEdges(t *testing.T) {
	edges := allEdges()
	for _, kind := range []int{2, 4} {
		for place := range 3 {
			m := api.Mail{Kind: kind, From: 1, Stream: 1, Epoch: 7, Entries: entries(1, 3)}
			for _, f := range entryFields(place) {
				for _, x := range append(edges, f.least-1, f.least, f.most, f.most+1) {
					c := copyOf(m)
					*f.of(&c) = x
					if good := x >= f.least && x <= f.most; wantAsSaid(t, c, 2) != good {
						t.Fatalf("%s %d: want %v", f.name, x, good)
					}
				}
			}
			for _, stream := range edges {
				c := copyOf(m)
				c.Entries[place].Order.Stream = stream
				if wantAsSaid(t, c, 2) != (stream == 1) {
					t.Fatalf("an entry of the stream %d, in a message of 1", stream)
				}
			}
		}
	}
}

// P11.1: each one of 64 entries is asked like the others.
func TestEachOfMany(t *testing.T) {
	for _, kind := range []int{2, 4} {
		for place := range topLog {
			m := api.Mail{Kind: kind, From: 1, Stream: 2, Epoch: 1, Entries: entries(2, topLog)}
			for _, f := range entryFields(place) {
				c := copyOf(m)
				*f.of(&c) = f.least - 1
				wantBad(t, c, 2)
				*f.of(&c) = f.most + 1
				wantBad(t, c, 2)
				*f.of(&c) = f.most
				wantGood(t, c, 2, bytesOf(c))
			}
			m.Entries[place].Order.Stream = 1
			wantBad(t, m, 2)
		}
	}
}

// P11.1: entries of a stream that may not be, or of none, in a message of that same one: it may not be either.
func TestStreamsThatAreNone(t *testing.T) {
	for _, stream := range []int{-1, 4, 5, math.MinInt, math.MaxInt, 1 << 32} {
		for _, m := range plain() {
			m.Entries = entries(stream, len(m.Entries))
			m.Stream = stream
			wantBad(t, m, 3)
		}
	}
}

// P11.1: what the chapter does not ask: that a message goes to another site, that an epoch is the sender's, that epochs of
// entries rise or are no more than the message's, that IDs come once, that a View is no more than the Epoch.
func TestWhatIsNotAsked(t *testing.T) {
	twice := []api.Entry{entry(2, 5), entry(2, 5), entry(2, 1)}
	for _, m := range []api.Mail{
		{Kind: 2, From: 1, To: 1, Stream: 2, Epoch: 1, View: topEpoch, Length: 3, Entries: twice},
		{Kind: 4, From: 2, To: 2, Stream: 2, Epoch: 1, Base: 1, Length: 64, Entries: twice},
		{Kind: 4, From: 2, To: 2, Stream: 2, Epoch: 1, Base: 61, Length: 0, Entries: twice},
		{Kind: 1, Epoch: topEpoch, Stamp: topClock},
		{Kind: 7, Order: someOrder()},
	} {
		wantGood(t, m, 3, bytesOf(m))
	}
}

// P11.2: what may be among n sites may be among n + 1, if these are so many sites, with the same bytes; and what may not
// be among n but for its sites may be among more.
func TestMoreSites(t *testing.T) {
	r := rand.New(rand.NewSource(111))
	for i := range 5000 {
		n := 2 + i%6
		m := randomMail(r, n)
		s := bytesOf(m)
		for k := range 10 {
			if good := k <= 7 && k > max(m.From, m.To, 1); wantAsSaid(t, m, k) != good || wantAsRead(t, s, k) != good {
				t.Fatalf("%+v among %d sites: want %v", m, k, good)
			}
		}
	}
}

// P11.1, P11.2: random messages, of which each may be, there and back; and the same with something changed, among 1 to 8
// sites.
func TestRandomMail(t *testing.T) {
	r := rand.New(rand.NewSource(112))
	edges, good := allEdges(), 0
	for range 30000 {
		n := 2 + r.Intn(6)
		m := randomMail(r, n)
		wantGood(t, m, n, bytesOf(m))
		for range 1 + r.Intn(2) {
			m = changed(r, m, edges)
		}
		if wantAsSaid(t, m, 1+r.Intn(8)) {
			good++
		}
	}
	if good < 1000 {
		t.Errorf("only %d changed messages were good", good)
	}
}

// changed is the message with a number or a list that is another one.
func changed(r *rand.Rand, m api.Mail, edges []int) api.Mail {
	m = copyOf(m)
	x := edges[r.Intn(len(edges))]
	if r.Intn(2) == 0 {
		x = r.Intn(8) - 2
	}
	some := func(l []field) { *l[r.Intn(len(l))].of(&m) = x }
	switch r.Intn(6) {
	case 0:
		some(allFields())
	case 1:
		some(siteFields())
	case 2:
		m.Kind = r.Intn(12)
	case 3:
		m.Entries = randomEntries(r, r.Intn(4), 70)
	case 4:
		m.Stream, m.Length = r.Intn(4), r.Intn(3)
	case 5:
		if len(m.Entries) > 0 {
			some(entryFields(r.Intn(len(m.Entries))))
		}
	}
	return m
}
