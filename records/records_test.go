package records

import (
	"math"
	"math/rand"
	"slices"
	"testing"

	"archipelago/api"
)

// head is a way to one of a record's numbers.
type head struct {
	name string
	of   func(r *api.Record) *int
}

// heads are the ways to all numbers of a record but the kind.
func heads() []head {
	return []head{
		{"Stream", func(r *api.Record) *int { return &r.Stream }},
		{"Epoch", func(r *api.Record) *int { return &r.Epoch }},
		{"View", func(r *api.Record) *int { return &r.View }},
		{"From", func(r *api.Record) *int { return &r.From }},
		{"Length", func(r *api.Record) *int { return &r.Length }},
	}
}

// part is a number of an entry, and what it may be.
type part struct {
	name        string
	of          func(e *api.Entry) *int
	least, most int
}

// parts are all numbers of an entry but the stream.
func parts() []part {
	return []part{
		{"Epoch", func(e *api.Entry) *int { return &e.Epoch }, 1, topEpoch},
		{"ID", func(e *api.Entry) *int { return &e.Order.ID }, 1, topID},
		{"Expect", func(e *api.Entry) *int { return &e.Order.Expect }, -1, topID},
		{"Kind", func(e *api.Entry) *int { return &e.Order.Kind }, 1, 4},
		{"Arg", func(e *api.Entry) *int { return &e.Order.Arg }, -topArg, topArg},
	}
}

// allEdges are ints around all places at which anything that the chapter names begins or ends, those at which a mark has
// a byte more, and those that would be small again if bits at the top were lost.
func allEdges() []int {
	l := []int{math.MinInt, math.MinInt + 1, math.MaxInt - 1, math.MaxInt}
	for _, at := range []int{0, 3, 63, 64, 127, 255, 256, 8191, topEpoch, topID, math.MaxUint32} {
		for n := at - 2; n <= at+2; n++ {
			l = append(l, n, -n)
		}
	}
	for bits := 6; bits < 63; bits++ {
		l = append(l, 1<<bits-1, 1<<bits, 1<<bits+1, 1<<bits+3, -1<<bits-1, -1<<bits, -1<<bits+1)
	}
	slices.Sort(l)
	return slices.Compact(l)
}

// P10.1: api has the document's numbers.
func TestNumbers(t *testing.T) {
	if api.OK != okay || api.ErrArg != errArg || api.ErrForm != errForm {
		t.Errorf("OK, ErrArg, ErrForm = %d, %d, %d, want 0, 2, 30", api.OK, api.ErrArg, api.ErrForm)
	}
	if api.MaxStreams != 4 || api.MaxLog != topLog || api.MaxEpoch != topEpoch || api.MaxFrame != maxFrame {
		t.Errorf("MaxStreams, MaxLog, MaxEpoch, MaxFrame = %d, %d, %d, %d", api.MaxStreams, api.MaxLog, api.MaxEpoch, api.MaxFrame)
	}
	kinds := [5]int{api.RecPromise, api.RecView, api.RecCommit, api.RecBase, api.RecFeed}
	if kinds != [5]int{1, 2, 3, 4, 5} {
		t.Errorf("the kinds are %v, want 1 to 5", kinds)
	}
}

// P10.1: the chapter's examples.
func TestExamples(t *testing.T) {
	wantGood(t, api.Record{Kind: api.RecPromise, Stream: 2, Epoch: 3}, "\x02\x04\x06\x00\x00\x00\x00\x00")
	feed := api.Record{Kind: api.RecFeed, Feed: []api.Spot{{Stream: 1, Index: 7}, {Stream: 0, Index: 0}}}
	wantGood(t, feed, "\x0a\x00\x00\x00\x00\x00\x00\x04\x02\x0e\x00\x00")
	wantBad(t, api.Record{Kind: api.RecCommit, Length: 65})
	wantBad(t, api.Record{Kind: api.RecBase, Length: 1})
	wantBad(t, api.Record{Kind: api.RecView, Stream: 1, Epoch: 1, Entries: entries(2, 1)})
	wantBad(t, api.Record{Kind: api.RecPromise, Stream: 2, Epoch: 3, From: 1})
	wantBad(t, api.Record{Kind: 6})
}

// P10.1: bytes written down by hand, of each kind, such that no two numbers can be taken for one another.
func TestBytesByHand(t *testing.T) {
	o := api.Order{ID: 7, Stream: 1, Expect: -1, Kind: api.OrAdd, Arg: 100}
	p := api.Order{ID: 300, Stream: 1, Expect: 2, Kind: api.OrTake, Arg: -1 << 20}
	l := []api.Entry{{Epoch: 9, Order: o}, {Epoch: 8, Order: p}}
	inBytes := "\x12\x0e\x02\x01\x04\xc8\x01" + "\x10\xd8\x04\x02\x04\x06\xff\xff\x7f"
	wantGood(t, api.Record{Kind: 1, Stream: 3, Epoch: 1 << 20}, "\x02\x06\x80\x80\x80\x01\x00\x00\x00\x00\x00")
	wantGood(t, api.Record{Kind: 2, Stream: 1, Epoch: 9, From: 62, Entries: l}, "\x04\x02\x12\x00\x7c\x00\x04"+inBytes+"\x00")
	wantGood(t, api.Record{Kind: 3, Stream: 2, Length: 64}, "\x06\x04\x00\x00\x00\x80\x01\x00\x00")
	wantGood(t, api.Record{Kind: 4, Stream: 1, Epoch: 10, View: 9, Length: 1, Entries: l}, "\x08\x02\x14\x12\x00\x02\x04"+inBytes+"\x00")
	wantGood(t, api.Record{Kind: 5, Feed: []api.Spot{{Stream: 3, Index: 63}}}, "\x0a\x00\x00\x00\x00\x00\x00\x02\x06\x7e")
	wantGood(t, api.Record{Kind: 4}, "\x08\x00\x00\x00\x00\x00\x00\x00")
	wantGood(t, api.Record{Kind: 5}, "\x0a\x00\x00\x00\x00\x00\x00\x00")
}

// P10.1, P10.2: of records of each kind each number at all edges: at what it may be, at one less than the least and one
// more than the greatest, at the least and the greatest int; where the kind does not have it, it may be 0 alone.
func TestEachNumberAtItsEdges(t *testing.T) {
	edges := allEdges()
	for _, r := range plain() {
		for _, h := range heads() {
			for _, n := range edges {
				x := copyOf(r)
				*h.of(&x) = n
				wantAsSaid(t, x)
			}
		}
	}
}

// P10.1: what each number of each kind may be, written down once more: just from the least to the greatest.
func TestWhatEachKindMayHave(t *testing.T) {
	for _, x := range []struct {
		r           api.Record
		least, most [5]int // Stream, Epoch, View, From, Length
	}{
		{plain()[0], [5]int{0, 1, 0, 0, 0}, [5]int{3, topEpoch, 0, 0, 0}},
		{plain()[1], [5]int{1, 1, 0, 0, 0}, [5]int{1, topEpoch, 0, 61, 0}},
		{plain()[2], [5]int{0, 1, 0, 0, 0}, [5]int{3, topEpoch, 0, 64, 0}},
		{plain()[3], [5]int{0, 0, 0, 0, 0}, [5]int{3, 0, 0, 0, 64}},
		{plain()[4], [5]int{3, 0, 0, 0, 0}, [5]int{3, topEpoch, topEpoch, 0, 4}},
		{plain()[5], [5]int{0, 0, 0, 0, 0}, [5]int{3, topEpoch, topEpoch, 0, 0}},
		{plain()[6], [5]int{0, 0, 0, 0, 0}, [5]int{0, 0, 0, 0, 0}},
		{plain()[7], [5]int{0, 0, 0, 0, 0}, [5]int{0, 0, 0, 0, 0}},
	} {
		for i, h := range heads() {
			for _, n := range []int{x.least[i] - 1, x.least[i], x.most[i], x.most[i] + 1} {
				r := copyOf(x.r)
				*h.of(&r) = n
				if good := n >= x.least[i] && n <= x.most[i]; wantAsSaid(t, r) != good {
					t.Fatalf("%s %d of %+v: want %v", h.name, n, x.r, good)
				}
			}
		}
	}
}

// P10.1: all kinds that there are, and others, with the numbers of each.
func TestKinds(t *testing.T) {
	for _, r := range plain() {
		wantGood(t, r, bytesOf(r))
		for _, kind := range append(allEdges(), -6, -5, 0, 1, 2, 3, 4, 5, 6, 7, 8, 9, 10) {
			x := copyOf(r)
			x.Kind = kind
			wantAsSaid(t, x)
		}
	}
	wantBad(t, api.Record{})
	wantBad(t, api.Record{Kind: 6})
	wantBad(t, api.Record{Kind: -1})
}

// P10.1, P10.2: what a kind does not have makes it none: each such number at 1 and at others, each such list.
func TestWhatAKindDoesNotHave(t *testing.T) {
	has := map[int]string{1: "Stream Epoch", 2: "Stream Epoch From", 3: "Stream Length", 4: "Stream Epoch View Length", 5: ""}
	for _, r := range plain() {
		for _, h := range heads() {
			if hasWord(has[r.Kind], h.name) {
				continue
			}
			for _, n := range []int{1, 2, 63, 64, topEpoch, math.MaxInt, -1, math.MinInt, 1 << 32} {
				x := copyOf(r)
				*h.of(&x) = n
				wantBad(t, x)
			}
		}
		for _, count := range []int{1, 2, 64, 300} {
			x := copyOf(r)
			if r.Kind != 2 && r.Kind != 4 {
				x.Entries = entries(r.Stream, count)
				wantBad(t, x)
			}
			x = copyOf(r)
			if r.Kind != 5 {
				x.Feed = spots(count)
				wantBad(t, x)
			}
		}
	}
}

// hasWord tells whether one of the text's words is that one.
func hasWord(text, word string) bool {
	word = " " + word + " "
	text = " " + text + " "
	for at := 0; at+len(word) <= len(text); at++ {
		if text[at:at+len(word)] == word {
			return true
		}
	}
	return false
}

// P10.1: From and as many entries as there are: together at most 64, whichever of both has them.
func TestFromAndEntries(t *testing.T) {
	for count := range 67 {
		for together := count; together <= 70; together++ {
			r := api.Record{Kind: 2, Stream: 2, Epoch: 5, From: together - count, Entries: entries(2, count)}
			if good := together <= 64; wantAsSaid(t, r) != good {
				t.Fatalf("From %d and %d entries: want %v", r.From, count, good)
			}
		}
	}
	for _, from := range []int{-1, -64, math.MinInt, math.MaxInt, math.MaxInt - 63, math.MaxInt - 64} {
		for _, count := range []int{0, 1, 2, 63, 64, 65} {
			wantBad(t, api.Record{Kind: 2, Epoch: 5, From: from, Entries: entries(0, count)})
		}
	}
}

// P10.1: what is committed of a whole log: at most as many entries as this has.
func TestLengthAndEntries(t *testing.T) {
	for count := range 67 {
		for length := -2; length <= 68; length++ {
			r := api.Record{Kind: 4, Stream: 1, Epoch: 90, View: 80, Length: length, Entries: entries(1, count)}
			good := count <= 64 && length >= 0 && length <= count
			if wantAsSaid(t, r) != good {
				t.Fatalf("Length %d of %d entries: want %v", length, count, good)
			}
		}
	}
}

// P10.1: as many entries and spots as may be, one more, and many more; and none, nil or not.
func TestHowManyThereAre(t *testing.T) {
	for _, count := range []int{0, 1, 2, 63, 64, 65, 66, 128, 255, 256, 257, 320, 512, 1024, 70000} {
		view := api.Record{Kind: 2, Stream: 3, Epoch: 1, Entries: entries(3, count)}
		base := api.Record{Kind: 4, Stream: 3, Entries: view.Entries}
		for i := range view.Entries {
			view.Entries[i].Epoch, view.Entries[i].Order = 1+i%9, api.Order{ID: 1 + i, Stream: 3, Expect: -1, Kind: 2, Arg: i}
		}
		feed := api.Record{Kind: 5, Feed: spots(count)}
		if wantAsSaid(t, view) != (count <= 64) || wantAsSaid(t, base) != (count <= 64) || wantAsSaid(t, feed) != (count <= 256) {
			t.Fatalf("%d entries, and spots: not as wanted", count)
		}
	}
	for _, r := range []api.Record{{Kind: 1, Epoch: 1}, {Kind: 2, Epoch: 1}, {Kind: 3}, {Kind: 4}, {Kind: 5}} {
		wantGood(t, r, bytesOf(r))
		r.Entries, r.Feed = []api.Entry{}, []api.Spot{}
		wantGood(t, r, bytesOf(r))
	}
}

// P10.1: at each place of a log an entry with one number at all edges, or of another stream.
func TestEachEntryAtItsEdges(t *testing.T) {
	edges := allEdges()
	for _, kind := range []int{2, 4} {
		for place := range 3 {
			r := api.Record{Kind: kind, Stream: 1, Epoch: 7, Entries: entries(1, 3)}
			for _, p := range parts() {
				for _, n := range append(edges, p.least-1, p.least, p.most, p.most+1) {
					x := copyOf(r)
					*p.of(&x.Entries[place]) = n
					if good := n >= p.least && n <= p.most; wantAsSaid(t, x) != good {
						t.Fatalf("%s %d of an entry: want %v", p.name, n, good)
					}
				}
			}
			for _, stream := range edges {
				x := copyOf(r)
				x.Entries[place].Order.Stream = stream
				if wantAsSaid(t, x) != (stream == 1) {
					t.Fatalf("an entry of the stream %d, in a record of 1", stream)
				}
			}
		}
	}
}

// P10.1: the last one of 64 entries, or of 256 spots, is asked like the others.
func TestLastOfMany(t *testing.T) {
	for _, kind := range []int{2, 4} {
		for place := range topLog {
			r := api.Record{Kind: kind, Stream: 2, Epoch: 1, Entries: entries(2, topLog)}
			r.Entries[place].Epoch = 0
			wantBad(t, r)
			r.Entries[place].Epoch = topEpoch + 1
			wantBad(t, r)
			r.Entries[place].Epoch = topEpoch
			wantGood(t, r, bytesOf(r))
			r.Entries[place].Order.ID = 0
			wantBad(t, r)
		}
	}
	for place := range topFeed {
		r := api.Record{Kind: 5, Feed: spots(topFeed)}
		r.Feed[place].Stream = 4
		wantBad(t, r)
		r.Feed[place] = api.Spot{Stream: 3, Index: 64}
		wantBad(t, r)
		r.Feed[place] = api.Spot{Stream: 3, Index: 63}
		wantGood(t, r, bytesOf(r))
	}
}

// P10.1: entries of a stream that may not be, or of none, in a record of that same one: the record may not be either.
func TestStreamsThatAreNone(t *testing.T) {
	for _, stream := range []int{-1, 4, 5, math.MinInt, math.MaxInt, 1 << 32} {
		for _, count := range []int{0, 1, 64} {
			wantBad(t, api.Record{Kind: 2, Stream: stream, Epoch: 1, Entries: entries(stream, count)})
			wantBad(t, api.Record{Kind: 4, Stream: stream, Entries: entries(stream, count)})
		}
		wantBad(t, api.Record{Kind: 1, Stream: stream, Epoch: 1})
		wantBad(t, api.Record{Kind: 3, Stream: stream})
	}
}

// P10.1: spots with each number at all edges, at each place of three; and each spot that may be.
func TestEachSpotAtItsEdges(t *testing.T) {
	for place := range 3 {
		for _, n := range allEdges() {
			r := api.Record{Kind: 5, Feed: spots(3)}
			r.Feed[place].Stream = n
			if wantAsSaid(t, r) != (n >= 0 && n <= 3) {
				t.Fatalf("a spot of the stream %d", n)
			}
			r = api.Record{Kind: 5, Feed: spots(3)}
			r.Feed[place].Index = n
			if wantAsSaid(t, r) != (n >= 0 && n <= 63) {
				t.Fatalf("a spot of the index %d", n)
			}
		}
	}
	for stream := -1; stream <= 4; stream++ {
		for index := -1; index <= 64; index++ {
			wantAsSaid(t, api.Record{Kind: 5, Feed: []api.Spot{{Stream: stream, Index: index}}})
		}
	}
}

// P10.1: what the chapter does not ask: epochs of entries may fall, be above the record's, IDs and spots come twice, the
// view be above what was promised, and spots be out of order.
func TestWhatIsNotAsked(t *testing.T) {
	twice := []api.Entry{entry(2, 5), entry(2, 5), entry(2, 1)}
	for _, r := range []api.Record{
		{Kind: 2, Stream: 2, Epoch: 1, Entries: twice},
		{Kind: 4, Stream: 2, Epoch: 0, View: 0, Length: 3, Entries: twice},
		{Kind: 4, Stream: 2, Epoch: 0, View: topEpoch},
		{Kind: 5, Feed: []api.Spot{{Stream: 3, Index: 9}, {Stream: 3, Index: 9}, {Stream: 0, Index: 63}, {Stream: 0, Index: 0}}},
		{Kind: 5, Feed: make([]api.Spot, topFeed)},
	} {
		wantGood(t, r, bytesOf(r))
	}
}

// P10.2: the longest records of each kind, of which each mark has as many bytes as can be, have fewer than MaxFrame.
func TestLongest(t *testing.T) {
	great := slices.Repeat([]api.Entry{greatEntry()}, topLog)
	feed := slices.Repeat([]api.Spot{{Stream: 3, Index: 63}}, topFeed)
	for _, x := range []struct {
		r    api.Record
		size int
	}{
		{api.Record{Kind: 1, Stream: 3, Epoch: topEpoch}, 11},
		{api.Record{Kind: 2, Stream: 3, Epoch: topEpoch, Entries: great}, 1292},
		{api.Record{Kind: 2, Stream: 3, Epoch: topEpoch, From: 64}, 12},
		{api.Record{Kind: 3, Stream: 3, Length: 64}, 9},
		{api.Record{Kind: 4, Stream: 3, Epoch: topEpoch, View: topEpoch, Length: 64, Entries: great}, 1296},
		{api.Record{Kind: 5, Feed: feed}, 521},
	} {
		s, err := Encode(x.r)
		if err != okay || len(s) != x.size || len(s) >= maxFrame {
			t.Errorf("a record of the kind %d has %d bytes (error %d), want %d", x.r.Kind, len(s), err, x.size)
		}
		wantGood(t, x.r, bytesOf(x.r))
	}
}

// P10.1, P10.2: random records, of which each may be, there and back; and the same with some numbers or lists changed.
func TestRandomRecords(t *testing.T) {
	r := rand.New(rand.NewSource(101))
	edges, good := allEdges(), 0
	for range 30000 {
		x := randomRecord(r)
		wantGood(t, x, bytesOf(x))
		for range 1 + r.Intn(2) {
			x = changed(r, x, edges)
		}
		if wantAsSaid(t, x) {
			good++
		}
	}
	if good < 1000 {
		t.Errorf("only %d changed records were good", good)
	}
}

// changed is the record with a number or a list that is another one.
func changed(r *rand.Rand, x api.Record, edges []int) api.Record {
	x = copyOf(x)
	n := edges[r.Intn(len(edges))]
	if r.Intn(2) == 0 {
		n = r.Intn(8) - 2
	}
	switch r.Intn(6) {
	case 0:
		*heads()[r.Intn(5)].of(&x) = n
	case 1:
		x.Kind = r.Intn(7)
	case 2:
		x.Entries = randomEntries(r, r.Intn(4), 70)
	case 3:
		x.Feed = spots(r.Intn(300))
	case 4:
		if len(x.Entries) > 0 {
			*parts()[r.Intn(5)].of(&x.Entries[r.Intn(len(x.Entries))]) = n
		}
	case 5:
		if len(x.Feed) > 0 {
			x.Feed[r.Intn(len(x.Feed))].Index = n
		}
	}
	return x
}
