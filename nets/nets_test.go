package nets

import (
	"math"
	"math/rand"
	"reflect"
	"slices"
	"testing"

	"archipelago/api"
)

// mostMail is the document's number, which api is to have.
const mostMail = 512

// message is one that is told from all others by its number, with that many entries.
func message(number, entries int) api.Mail {
	m := api.Mail{
		Kind: number%10 + 1, From: number, To: number + 1, Stream: number + 2, Epoch: number + 3, View: number + 4,
		Base: number + 5, Length: number + 6, Stamp: number + 7,
		Order:  api.Order{ID: number + 8, Stream: number + 9, Expect: number + 10, Kind: number + 11, Arg: number + 12},
		Answer: api.Answer{ID: number + 13, Code: number + 14, Version: number + 15},
	}
	for i := range entries {
		m.Entries = append(m.Entries, entry(100*number+i))
	}
	return m
}

// entry is one of which each field is another number.
func entry(number int) api.Entry {
	return api.Entry{Epoch: number, Order: api.Order{
		ID: number + 1, Stream: number + 2, Expect: number + 3, Kind: number + 4, Arg: number + 5,
	}}
}

// messages are as many, each another one, with 0 to 3 entries.
func messages(count int) []api.Mail {
	l := make([]api.Mail, count)
	for i := range l {
		l[i] = message(i, i%4)
	}
	return l
}

// clone is the same message, in memory of its own.
func clone(m api.Mail) api.Mail {
	m.Entries = append([]api.Entry(nil), m.Entries...)
	return m
}

// same tells whether two messages are the same, where no entries are nil or empty alike.
func same(a, b api.Mail) bool {
	return reflect.DeepEqual(clone(a), clone(b))
}

// spoil writes into a message's entries, and into what room there is behind them.
func spoil(m api.Mail) {
	l := m.Entries[:cap(m.Entries)]
	for i := range l {
		l[i] = entry(-1000 - i)
	}
}

// netOf is a net in which those were sent, which all have to find room.
func netOf(t *testing.T, l []api.Mail) *Net {
	t.Helper()
	n := New()
	if n == nil {
		t.Fatal("New = nil")
	}
	for i, m := range l {
		if !n.Send(m) {
			t.Fatalf("Send of message %d = false", i)
		}
	}
	return n
}

// noPlaces are places at which a net of that many messages has none.
func noPlaces(count int) []int {
	return []int{math.MinInt, math.MinInt + 1, -mostMail, -count - 1, -2, -1, count, count + 1, 2*count + 1, mostMail, mostMail + 1,
		math.MaxInt - 1, math.MaxInt}
}

// wantAll wants just those messages under way, told by each call that tells without a change, and none at any place
// besides.
func wantAll(t *testing.T, n *Net, want []api.Mail) {
	t.Helper()
	if n.Len() != len(want) {
		t.Fatalf("Len = %d, want %d", n.Len(), len(want))
	}
	all := n.All()
	if len(all) != len(want) {
		t.Fatalf("All has %d messages, want %d", len(all), len(want))
	}
	for i, m := range want {
		if !same(all[i], m) {
			t.Fatalf("All has at %d %v, want %v", i, all[i], m)
		}
		if got, ok := n.Look(i); !ok || !same(got, m) {
			t.Fatalf("Look(%d) = %v %v, want %v true", i, got, ok, m)
		}
	}
	for _, i := range []int{-1, len(want)} {
		if got, ok := n.Look(i); ok || !reflect.DeepEqual(got, api.Mail{}) {
			t.Fatalf("Look(%d) = %v %v, want none", i, got, ok)
		}
	}
}

// wantTake wants that message taken at that place.
func wantTake(t *testing.T, n *Net, i int, want api.Mail) {
	t.Helper()
	if got, ok := n.Take(i); !ok || !same(got, want) {
		t.Fatalf("Take(%d) = %v %v, want %v true", i, got, ok, want)
	}
}

// wantNothingAt wants no call to find a message at that place.
func wantNothingAt(t *testing.T, n *Net, i int) {
	t.Helper()
	if m, ok := n.Look(i); ok || !reflect.DeepEqual(m, api.Mail{}) {
		t.Fatalf("Look(%d) = %v %v, want none", i, m, ok)
	}
	if m, ok := n.Take(i); ok || !reflect.DeepEqual(m, api.Mail{}) {
		t.Fatalf("Take(%d) = %v %v, want none", i, m, ok)
	}
	if n.Copy(i) {
		t.Fatalf("Copy(%d) = true, want false", i)
	}
	if n.Drop(i) {
		t.Fatalf("Drop(%d) = true, want false", i)
	}
}

// P8.1 to P8.3: the chapter's examples.
func TestExamples(t *testing.T) {
	a, b, c := message(1, 2), message(2, 0), message(3, 1)
	n := netOf(t, []api.Mail{a, b})
	if !n.Copy(0) {
		t.Error("Copy(0) = false")
	}
	wantAll(t, n, []api.Mail{a, b, a})
	wantTake(t, n, 0, a)
	if m, ok := n.Look(0); !ok || !same(m, b) {
		t.Errorf("Look(0) = %v %v, want %v true", m, ok, b)
	}
	if n.Drop(5) {
		t.Error("Drop(5) = true")
	}
	if !n.Drop(0) {
		t.Error("Drop(0) = false")
	}
	wantAll(t, n, []api.Mail{a})
	if !n.Send(c) {
		t.Error("Send = false")
	}
	wantAll(t, n, []api.Mail{a, c})
}

// P8.2: api has the document's number.
func TestLimit(t *testing.T) {
	if api.MaxNet != mostMail {
		t.Errorf("MaxNet = %d, want %d", api.MaxNet, mostMail)
	}
}

// P8.1, P8.2, P8.3: New is a net without messages: there is none at any place, and it stays so.
func TestNewIsWithoutMessages(t *testing.T) {
	n := netOf(t, nil)
	wantAll(t, n, nil)
	for _, i := range append(noPlaces(0), 0, 1) {
		wantNothingAt(t, n, i)
	}
	wantAll(t, n, nil)
}

// P8.1: of a net that is nil, or that New did not make, all is false, 0, nothing; what is sent is lost, also where it is
// asked for behind that.
func TestNone(t *testing.T) {
	for _, n := range []*Net{nil, {}, new(Net)} {
		for range 3 {
			if n.Send(message(1, 2)) {
				t.Fatal("Send = true")
			}
			for _, i := range append(noPlaces(0), 0, 1) {
				wantNothingAt(t, n, i)
			}
			wantAll(t, n, nil)
		}
	}
}

// P8.2: each message is under way behind all others, with room for just MaxNet: of each number of messages one after the
// other, and of one more, which is lost.
func TestSendUpToMaxNet(t *testing.T) {
	l := messages(mostMail)
	n := netOf(t, nil)
	for i, m := range l {
		if !n.Send(m) {
			t.Fatalf("Send of message %d = false", i)
		}
		if i < 3 || i >= mostMail-3 {
			wantAll(t, n, l[:i+1])
		}
	}
	for range 3 {
		if n.Send(message(9999, 1)) {
			t.Fatal("Send to a net with MaxNet messages = true")
		}
		wantAll(t, n, l)
	}
}

// P8.2, P8.3: messages any whatever: without a field, with the least and the greatest numbers, with kinds that there are
// not, with no entries, without entries, with many.
func TestMessagesAnyWhatever(t *testing.T) {
	l := []api.Mail{{}, {Entries: []api.Entry{}}, {Entries: []api.Entry{{}}}, message(7, 1000)}
	for _, x := range []int{math.MinInt, -1, 11, math.MaxInt} {
		order := api.Order{ID: x, Stream: x, Expect: x, Kind: x, Arg: x}
		l = append(l, api.Mail{
			Kind: x, From: x, To: x, Stream: x, Epoch: x, View: x, Base: x, Length: x, Stamp: x,
			Entries: []api.Entry{{Epoch: x, Order: order}}, Order: order, Answer: api.Answer{ID: x, Code: x, Version: x},
		})
	}
	n := netOf(t, l)
	wantAll(t, n, l)
	for i := range l {
		if !n.Copy(i) {
			t.Fatalf("Copy(%d) = false", i)
		}
	}
	wantAll(t, n, slices.Concat(l, l))
	for _, m := range slices.Concat(l, l) {
		wantTake(t, n, 0, m)
	}
	wantAll(t, n, nil)
}

// P8.2, P8.3: places at which there is none are none for every call, and nothing is changed: negative ones, the one behind
// the last, the least and the greatest int.
func TestNoSuchPlace(t *testing.T) {
	for _, count := range []int{0, 1, 2, 5, mostMail - 1, mostMail} {
		l := messages(count)
		n := netOf(t, l)
		for _, i := range noPlaces(count) {
			if i >= 0 && i < count {
				continue // these are none only in smaller nets
			}
			wantNothingAt(t, n, i)
		}
		wantAll(t, n, l)
	}
}

// P8.3, P8.4: Take and Drop cut out the message at each place, the first and the last among them, and those that are left
// keep their order; Drop tells just that.
func TestCutAtEachPlace(t *testing.T) {
	for _, count := range []int{1, 2, 3, 6} {
		l := messages(count)
		for i := range count {
			left := slices.Concat(l[:i], l[i+1:])
			n := netOf(t, l)
			wantTake(t, n, i, l[i])
			wantAll(t, n, left)
			n = netOf(t, l)
			if !n.Drop(i) {
				t.Fatalf("Drop(%d) of %d = false", i, count)
			}
			wantAll(t, n, left)
		}
	}
}

// P8.3, P8.4: Copy puts the message at each place behind all others, and leaves it where it was.
func TestCopyAtEachPlace(t *testing.T) {
	for _, count := range []int{1, 2, 3, 6} {
		l := messages(count)
		for i := range count {
			n := netOf(t, l)
			if !n.Copy(i) {
				t.Fatalf("Copy(%d) of %d = false", i, count)
			}
			want := append(slices.Clone(l), l[i])
			wantAll(t, n, want)
			if !n.Copy(count) {
				t.Fatalf("Copy(%d) of the copy = false", count)
			}
			wantAll(t, n, append(want, l[i]))
		}
	}
}

// P8.3: a net with one message less than MaxNet has room for one Copy, of whichever place, and no more.
func TestCopyUpToMaxNet(t *testing.T) {
	for _, i := range []int{0, 1, 255, mostMail - 3, mostMail - 2} {
		l := messages(mostMail - 1)
		n := netOf(t, l)
		if !n.Copy(i) {
			t.Fatalf("Copy(%d) with room for one = false", i)
		}
		want := append(slices.Clone(l), l[i])
		for _, again := range []int{0, i, mostMail - 1, mostMail, -1} {
			if n.Copy(again) {
				t.Fatalf("Copy(%d) with MaxNet messages = true", again)
			}
		}
		wantAll(t, n, want)
	}
}

// P8.2, P8.3: behind a Take, or a Drop, a full net has room again for one, by a Send, or a Copy.
func TestRoomAgain(t *testing.T) {
	late := message(7777, 2)
	for _, i := range []int{0, 1, 256, mostMail - 2, mostMail - 1} {
		for way := range 4 {
			l := messages(mostMail)
			n := netOf(t, l)
			if way%2 == 0 {
				wantTake(t, n, i, l[i])
			} else if !n.Drop(i) {
				t.Fatalf("Drop(%d) = false", i)
			}
			want := slices.Concat(l[:i], l[i+1:])
			wantAll(t, n, want)
			if way < 2 {
				want = append(want, late)
				if !n.Send(late) {
					t.Fatal("Send with room for one again = false")
				}
			} else {
				want = append(want, want[0])
				if !n.Copy(0) {
					t.Fatal("Copy with room for one again = false")
				}
			}
			if n.Send(late) || n.Copy(0) {
				t.Fatal("Send or Copy with MaxNet messages again = true")
			}
			wantAll(t, n, want)
		}
	}
}

// P8.3: a full net is emptied from the front, from behind, and from the middle, and filled again.
func TestEmptiedAndFilledAgain(t *testing.T) {
	l := messages(mostMail)
	n := netOf(t, l)
	for _, from := range []func(count int) int{
		func(int) int { return 0 },
		func(count int) int { return count - 1 },
		func(count int) int { return count / 2 },
	} {
		left := slices.Clone(l)
		for len(left) > 0 {
			i := from(len(left))
			wantTake(t, n, i, left[i])
			left = slices.Delete(left, i, i+1)
		}
		wantAll(t, n, nil)
		wantNothingAt(t, n, 0)
		for _, m := range l {
			if !n.Send(m) {
				t.Fatal("Send to a net that was emptied = false")
			}
		}
		wantAll(t, n, l)
	}
}

// P8.2: what is under way is as it was when it was sent, whatever becomes of its entries; and Send leaves them as they
// were, with what stands behind them.
func TestEntriesOfWhatWasSent(t *testing.T) {
	room := make([]api.Entry, 5)
	for i := range room {
		room[i] = entry(i)
	}
	for _, length := range []int{0, 1, 3, 5} {
		was := slices.Clone(room)
		m := message(1, 0)
		m.Entries = room[:length]
		n := netOf(t, []api.Mail{m, m})
		want := clone(m)
		if !slices.Equal(room, was) {
			t.Fatalf("Send made %v of %v", room, was)
		}
		for i := range room {
			room[i] = entry(-i - 5)
		}
		wantAll(t, n, []api.Mail{want, want})
		wantTake(t, n, 0, want)
		wantTake(t, n, 0, want)
		copy(room, was)
	}
}

// P8.4: messages that are told are new memory: by Look, All and Take, of what was sent and of its copies. What is done with
// their entries changes nothing that is under way, nothing that was told, and nothing that was sent.
func TestEntriesOfWhatIsTold(t *testing.T) {
	sent := []api.Mail{message(1, 3), message(2, 0), message(3, 1), {Entries: []api.Entry{}}}
	want := []api.Mail{clone(sent[0]), clone(sent[1]), clone(sent[2]), clone(sent[3])}
	n := netOf(t, sent)
	for i := range want {
		first, _ := n.Look(i)
		second, _ := n.Look(i)
		spoil(first)
		if !same(second, want[i]) || !same(sent[i], want[i]) {
			t.Fatalf("writing into what Look(%d) told is seen elsewhere", i)
		}
	}
	wantAll(t, n, want)
	for _, m := range n.All() {
		other := n.All()
		spoil(m)
		for i := range other {
			if !same(other[i], want[i]) || !same(sent[i], want[i]) {
				t.Fatalf("writing into what All told is seen elsewhere, at %d", i)
			}
		}
		wantAll(t, n, want)
	}
	all := n.All()
	for i := range all {
		all[i] = message(99, 1)
	}
	_ = append(all[:1], message(98, 1))
	wantAll(t, n, want)
}

// P8.3, P8.4: a copy, and what it is of, have nothing in common: whichever of them is taken, or looked at, and written into,
// the other one stays, and so does what was told of it.
func TestEntriesOfCopies(t *testing.T) {
	want := message(4, 3)
	for _, first := range []int{0, 2} {
		sent := clone(want)
		n := netOf(t, []api.Mail{sent, message(5, 0)})
		if !n.Copy(0) {
			t.Fatal("Copy(0) = false")
		}
		looked, _ := n.Look(2 - first)
		all := n.All()
		taken, _ := n.Take(first)
		spoil(taken)
		if !same(looked, want) || !same(all[0], want) || !same(all[2], want) || !same(sent, want) {
			t.Fatal("writing into what Take told is seen elsewhere")
		}
		left := []api.Mail{message(5, 0), want}
		if first == 2 {
			slices.Reverse(left)
		}
		wantAll(t, n, left)
		spoil(all[0])
		if !same(all[2], want) {
			t.Fatal("two messages of one All share their entries")
		}
	}
}

// P8.4: what was taken stays what it is, whatever is sent, copied and taken behind it.
func TestWhatWasTakenStays(t *testing.T) {
	l := messages(20)
	n := netOf(t, l)
	var taken []api.Mail
	for range l {
		m, _ := n.Take(0)
		taken = append(taken, m)
		n.Send(message(500, 3))
		n.Copy(n.Len() - 1)
	}
	for i, m := range taken {
		if !same(m, l[i]) {
			t.Fatalf("the message %d that was taken became %v, and was %v", i, m, l[i])
		}
	}
}

// P8.4: nothing is kept of messages that are not under way any more.
func TestNothingIsKeptOfWhatIsGone(t *testing.T) {
	n := netOf(t, messages(40))
	for n.Len() > 0 {
		n.Take(n.Len() / 2)
		n.Drop(0)
	}
	for i, m := range n.mail[:cap(n.mail)] {
		if !reflect.DeepEqual(m, api.Mail{}) {
			t.Fatalf("behind the list's end stands at %d %v", i, m)
		}
	}
}

// P8.1 to P8.3: nets beside one another have nothing in common.
func TestNetsBesideOneAnother(t *testing.T) {
	m := message(1, 2)
	a, b := netOf(t, nil), netOf(t, nil)
	a.Send(m)
	wantAll(t, b, nil)
	b.Send(message(2, 1))
	b.Send(m)
	wantAll(t, a, []api.Mail{m})
	a.Copy(0)
	wantAll(t, b, []api.Mail{message(2, 1), m})
	taken, _ := b.Take(1)
	spoil(taken)
	wantAll(t, a, []api.Mail{m, m})
	b.Drop(0)
	wantAll(t, b, nil)
	wantAll(t, a, []api.Mail{m, m})
}

// P8.2: asking changes nothing, however often.
func TestAskingChangesNothing(t *testing.T) {
	l := messages(9)
	n := netOf(t, l)
	for range 3 {
		wantAll(t, n, l)
	}
}

// twin is a net by the chapter's words, with what became of each message, by its number.
type twin struct {
	under                        []api.Mail
	sent, copied, taken, dropped map[int]int
}

// wantCut takes or drops the message at a place, and wants the net to tell what the twin has there.
func (w *twin) wantCut(t *testing.T, n *Net, i int, told bool) {
	t.Helper()
	there := i >= 0 && i < len(w.under)
	if told {
		m, ok := n.Take(i)
		if ok != there || there && !same(m, w.under[i]) {
			t.Fatalf("Take(%d) of %d = %v %v", i, len(w.under), m, ok)
		}
		spoil(m)
	} else if n.Drop(i) != there {
		t.Fatalf("Drop(%d) of %d = %v", i, len(w.under), !there)
	}
	if !there {
		return
	}
	if told {
		w.taken[w.under[i].From]++
	} else {
		w.dropped[w.under[i].From]++
	}
	w.under = slices.Concat(w.under[:i], w.under[i+1:])
}

// wantCopy copies the message at a place, and wants that to be so just where the twin has one there, and room.
func (w *twin) wantCopy(t *testing.T, n *Net, i int) {
	t.Helper()
	want := i >= 0 && i < len(w.under) && len(w.under) < mostMail
	if n.Copy(i) != want {
		t.Fatalf("Copy(%d) of %d = %v", i, len(w.under), !want)
	}
	if want {
		w.copied[w.under[i].From]++
		w.under = append(w.under, w.under[i])
	}
}

// wantSend sends a message, and wants that to be so just where the twin has room.
func (w *twin) wantSend(t *testing.T, n *Net, m api.Mail) {
	t.Helper()
	want := len(w.under) < mostMail
	if n.Send(m) != want {
		t.Fatalf("Send to %d = %v", len(w.under), !want)
	}
	if want {
		w.sent[m.From]++
		w.under = append(w.under, clone(m))
	}
	spoil(m)
}

// wantStep does one step, at random, with the net and its twin; greed says how often, of ten, it is one that takes from
// the net.
func (w *twin) wantStep(t *testing.T, n *Net, r *rand.Rand, number, greed int) {
	t.Helper()
	i := r.Intn(len(w.under)+4) - 2
	if r.Intn(10) < greed {
		w.wantCut(t, n, i, r.Intn(2) == 0)
	} else if r.Intn(2) == 0 {
		w.wantCopy(t, n, i)
	} else {
		w.wantSend(t, n, message(number, r.Intn(4)))
	}
}

// P8.2, P8.3, P8.4: random scripts beside a twin: those that are left keep their order, and each message was sent as often
// as it was taken, is under way, and was dropped, less the copies.
func TestRandomScripts(t *testing.T) {
	r := rand.New(rand.NewSource(8))
	for round := range 30 {
		n := netOf(t, nil)
		w := twin{sent: map[int]int{}, copied: map[int]int{}, taken: map[int]int{}, dropped: map[int]int{}}
		for step := range 1500 {
			greed := 4 + step/300%2*3 // by turns more comes and more goes
			if round%3 == 0 {
				greed = 1 // comes to MaxNet
			}
			w.wantStep(t, n, r, step, greed)
			if step%50 == 0 {
				wantAll(t, n, w.under)
			}
		}
		wantAll(t, n, w.under)
		under := map[int]int{}
		for _, m := range n.All() {
			under[m.From]++
		}
		for number := range 1500 {
			if w.sent[number] != w.taken[number]+under[number]+w.dropped[number]-w.copied[number] {
				t.Fatalf("message %d: sent %d, taken %d, under way %d, dropped %d, copied %d", number, w.sent[number],
					w.taken[number], under[number], w.dropped[number], w.copied[number])
			}
		}
	}
}
