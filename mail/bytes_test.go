package mail

import (
	"math"
	"math/rand"
	"slices"
	"strings"
	"testing"

	"archipelago/api"
)

// someMail are the plain messages, and as many random ones among 3 sites.
func someMail(r *rand.Rand, count int) []api.Mail {
	l := plain()
	for range count {
		l = append(l, randomMail(r, 3))
	}
	return l
}

// P11.1: no bytes, each byte alone, any two, and marks of a small number, few and many.
func TestShortTexts(t *testing.T) {
	wantNoMail(t, "", 3)
	for a := range 256 {
		wantNoMail(t, string([]byte{byte(a)}), 3)
		for b := range 256 {
			wantNoMail(t, string([]byte{byte(a), byte(b)}), 3)
		}
	}
	for size := range 1000 {
		for b := range 16 {
			wantAsRead(t, strings.Repeat(string([]byte{byte(b)}), size), 3)
		}
	}
}

// P11.1: all texts of eighteen marks of small numbers of which at most three are not 0, for each kind: so all small
// messages, and many that are almost one.
func TestSmallNumbers(t *testing.T) {
	found := 0
	for kind := range 12 {
		l := make([]int, 18)
		l[0] = kind
		for a := 1; a < 18; a++ {
			for b := a; b < 18; b++ {
				for c := b; c < 18; c++ {
					for _, x := range []int{1, -1, 2} {
						l[a], l[b], l[c] = 1, x, 1
						if wantAsRead(t, marksOf(l...), 2) {
							found++
						}
						l[a], l[b], l[c] = 0, 0, 0
					}
				}
			}
		}
	}
	if found < 100 {
		t.Errorf("only %d texts were messages", found)
	}
}

// P11.1, P11.2: bytes of a message that are cut off at any place, from behind or from the front.
func TestCutOff(t *testing.T) {
	r := rand.New(rand.NewSource(113))
	for _, m := range someMail(r, 300) {
		s := bytesOf(m)
		wantGood(t, m, 3, s)
		for end := range len(s) {
			wantNoMail(t, s[:end], 3)
		}
		for from := 1; from <= len(s); from++ {
			wantAsRead(t, s[from:], 3)
		}
	}
}

// P11.1, P11.2: bytes of a message with any byte behind, or several, or those of a message once more, are those of none.
func TestMoreBehind(t *testing.T) {
	r := rand.New(rand.NewSource(114))
	for _, m := range someMail(r, 200) {
		s := bytesOf(m)
		for b := range 256 {
			wantNoMail(t, s+string([]byte{byte(b)}), 3)
		}
		for _, more := range []string{s, bytesOf(randomMail(r, 3)), "\x00\x00", "\x80\x80", "\xff\xff\xff", strings.Repeat("\x02", 5000)} {
			wantNoMail(t, s+more, 3)
		}
	}
}

// P11.1: any byte at any place, put in or in the place of another one: what the second hand reads is told.
func TestAnyByteAnywhere(t *testing.T) {
	for _, m := range plain() {
		s := bytesOf(m)
		for b := range 256 {
			one := string([]byte{byte(b)})
			for at := range len(s) + 1 {
				wantAsRead(t, s[:at]+one+s[at:], 3)
				if at < len(s) {
					wantAsRead(t, s[:at]+one+s[at+1:], 3)
				}
			}
		}
	}
}

// P11.1: of each number of a message, a mark that is not the shortest one, by one byte or by several, is none.
func TestMarksThatAreTooLong(t *testing.T) {
	for _, m := range plain() {
		l := numbersByHand(m)
		for i := range l {
			ahead, behind := marksOf(l[:i]...), marksOf(l[i+1:]...)
			mark := []byte(marksOf(l[i]))
			wantGood(t, m, 3, ahead+string(mark)+behind)
			mark[len(mark)-1] |= 128
			for size := len(mark); size < 12; size++ {
				wantNoMail(t, ahead+string(mark)+"\x00"+behind, 3)
				mark = append(mark, 128)
			}
		}
	}
}

// P11.1: in the place of each number, bytes that are no mark at all: such that go on without an end, or beyond what an int
// has; and no bytes.
func TestMarksThatAreNone(t *testing.T) {
	for _, m := range plain() {
		l := numbersByHand(m)
		for i := range l {
			ahead, behind := marksOf(l[:i]...), marksOf(l[i+1:]...)
			wantNoMail(t, ahead, 3)
			wantAsRead(t, ahead+behind, 3)
			for size := 1; size <= 12; size++ {
				for _, b := range []string{"\x80", "\x81", "\xfe", "\xff"} {
					wantNoMail(t, ahead+strings.Repeat(b, size), 3)
					wantAsRead(t, ahead+strings.Repeat(b, size)+behind, 3)
				}
				for _, last := range []string{"\x00", "\x01", "\x02", "\x7f"} {
					wantAsRead(t, ahead+strings.Repeat("\x80", size)+last+behind, 3)
					wantAsRead(t, ahead+strings.Repeat("\xff", size)+last+behind, 3)
				}
			}
		}
	}
}

// P11.1: marks of all edges in the place of each number: also in that of how many entries there are.
func TestAnotherNumberAnywhere(t *testing.T) {
	edges := allEdges()
	for _, m := range plain() {
		l := numbersByHand(m)
		for i := range l {
			for _, x := range edges {
				c := slices.Clone(l)
				c[i] = x
				wantAsRead(t, marksOf(c...), 3)
			}
		}
	}
}

// P11.1: bytes that say more entries than stand there, fewer, fewer than none, or as many as the greatest int.
func TestOtherCounts(t *testing.T) {
	counts := []int{math.MinInt, math.MinInt + 1, -65, -64, -3, -2, -1, 0, 1, 2, 3, 4, 5, 6, 63, 64, 65, 66, 128, 256, 1 << 20, 1 << 30,
		1<<31 - 1, 1 << 31, 1 << 32, 1<<32 + 3, 1 << 61, 1<<61 + 1, 1<<62 - 1, 1 << 62, 1<<62 + 3, math.MaxInt/6 - 1, math.MaxInt / 6,
		math.MaxInt/6 + 1, math.MaxInt/3 + 1, math.MaxInt - 1, math.MaxInt}
	for stand := range 6 {
		for _, kind := range []int{2, 4} {
			l := numbersByHand(api.Mail{Kind: kind, From: 1, Stream: 1, Epoch: 4, Entries: entries(1, stand)})
			for _, count := range counts {
				l[9] = count
				if wantAsRead(t, marksOf(l...), 2) != (count == stand) {
					t.Fatalf("%d entries, of which %d are said: not as wanted", stand, count)
				}
			}
		}
	}
}

// P11.1: bytes that say one entry less or more than may be, where just so many stand.
func TestCountsAtTheMost(t *testing.T) {
	for _, stand := range []int{63, 64, 65, 66} {
		for said := stand - 1; said <= stand+1; said++ {
			l := numbersByHand(api.Mail{Kind: 4, From: 1, Epoch: 1, Entries: entries(0, stand)})
			l[9] = said
			if wantAsRead(t, marksOf(l...), 2) != (said == stand && stand <= 64) {
				t.Fatalf("%d entries, of which %d are said: not as wanted", stand, said)
			}
		}
	}
}

// P11.1: bytes that say very many entries, and have them, are those of none, and few of them are gone through.
func TestVeryManyThere(t *testing.T) {
	const many = 200000
	all := strings.Repeat(marksOf(1, 1, 0, -1, 1, 1), many)
	for _, kind := range []int{2, 4} {
		s := marksOf(kind, 0, 1, 0, 1, 0, 0, 0, 0, many) + all + marksOf(0, 0, 0, 0, 0, 0, 0, 0)
		wantNoMail(t, s, 2)
		if n := testing.AllocsPerRun(10, func() { Decode(s, 2) }); n > 20 {
			t.Errorf("%v things are laid in memory for bytes of no message", n)
		}
	}
}

// P11.1: the longest message: that many marks, each with as many bytes as can be; and one mark more.
func TestLongest(t *testing.T) {
	great := api.Entry{Epoch: topEpoch, Order: api.Order{ID: topID, Stream: 3, Expect: topID, Kind: 4, Arg: topArg}}
	m := api.Mail{Kind: 2, From: 6, To: 6, Stream: 3, Epoch: topEpoch, View: topEpoch, Length: 64, Stamp: topClock}
	m.Entries = slices.Repeat([]api.Entry{great}, topLog)
	s := bytesOf(m)
	wantGood(t, m, 7, s)
	wantNoMail(t, s+"\x00", 7)
	wantNoMail(t, s[:len(s)-1], 7)
}

// P11.1: too few marks, and too many, each that of one number, and with the count of entries that would be right for them.
func TestAnotherNumberOfMarks(t *testing.T) {
	for count := range 600 {
		for x := range 6 {
			l := slices.Repeat([]int{x}, count)
			wantAsRead(t, marksOf(l...), 3)
			if count > 9 {
				l[9] = (count - 18) / 6
				wantAsRead(t, marksOf(l...), 3)
			}
		}
	}
	for _, m := range plain() {
		l := numbersByHand(m)
		for end := range l {
			wantNoMail(t, marksOf(l[:end]...), 3)
			wantAsRead(t, marksOf(append(slices.Clone(l[:end]), l[end+1:]...)...), 3)
			wantAsRead(t, marksOf(slices.Insert(slices.Clone(l), end, 0)...), 3)
		}
	}
}

// P11.1: what a text tells with each kind's number ahead of what another kind has, and among all numbers of sites.
func TestBytesOfOtherKindsAndSites(t *testing.T) {
	for _, m := range plain() {
		for kind := -2; kind < 13; kind++ {
			l := numbersByHand(m)
			l[0] = kind
			wantAsRead(t, marksOf(l...), 3)
		}
		for _, n := range []int{math.MinInt, -3, -1, 0, 1, 2, 3, 4, 5, 6, 7, 8, 9, 1<<32 + 3, math.MaxInt} {
			if good := n <= 7 && n > max(m.From, m.To); wantAsRead(t, bytesOf(m), n) != good {
				t.Fatalf("bytes of %+v among %d sites: want %v", m, n, good)
			}
		}
	}
}

// P11.1, P11.2: random texts, of any bytes, of marks, of a message's bytes with some changed: what the second hand reads
// is told, and what is decoded is encoded to just that text, among 1 to 8 sites.
func TestRandomTexts(t *testing.T) {
	r := rand.New(rand.NewSource(115))
	found := 0
	for i := range 100000 {
		var s string
		switch i % 5 {
		case 0:
			b := make([]byte, r.Intn(60))
			r.Read(b)
			s = string(b)
		case 1:
			b := make([]byte, 18)
			for k := range b {
				b[k] = byte(2 * r.Intn(3) * r.Intn(2))
			}
			b[0] = byte(2 * r.Intn(12))
			s = string(b)
		case 2:
			l := make([]int, 17+r.Intn(9))
			for k := range l {
				l[k] = int(r.Uint64()) >> (40 + r.Intn(24))
			}
			s = marksOf(l...)
		case 3:
			b := []byte(bytesOf(randomMail(r, 7)))
			b[r.Intn(len(b))] ^= byte(1) << r.Intn(8)
			s = string(b)
		case 4:
			l := numbersByHand(randomMail(r, 4))
			l[r.Intn(len(l))] += r.Intn(5) - 2
			s = marksOf(l...)
		}
		if wantAsRead(t, s, 1+r.Intn(8)) {
			found++
		}
	}
	if found < 3000 {
		t.Errorf("only %d texts were messages", found)
	}
}

// P11.2: unlike messages have unlike bytes.
func TestUnlikeBytes(t *testing.T) {
	r := rand.New(rand.NewSource(116))
	told := map[string]api.Mail{}
	for _, m := range someMail(r, 30000) {
		s, err := Encode(m, 3)
		if other, ok := told[s]; err != okay || ok && !same(other, m) {
			t.Fatalf("%+v has %q (error %d), as %+v has", m, s, err, other)
		}
		told[s] = m
	}
}

// P11.1: lists that are handed in stay as they were, also behind their end, and are not kept.
func TestListsHandedInStay(t *testing.T) {
	for _, m := range plain() {
		m.Entries = append(m.Entries, entry(9, 9))
		was, whole := copyOf(m), m
		m.Entries = m.Entries[:len(m.Entries)-1]
		s := bytesOf(m)
		wantGood(t, m, 3, s)
		if !same(whole, was) {
			t.Fatalf("%+v became %+v", was, whole)
		}
		for i := range m.Entries {
			m.Entries[i] = entry(8, 8)
		}
		if back, err := Decode(s, 3); err != okay || bytesOf(back) != s {
			t.Fatalf("Decode(%q, 3) = %+v %d, when the message's entries were written into", s, back, err)
		}
	}
}

// P11.1: lists that are answered are new: what is written into that of one answer, or behind it, no other answer has.
func TestListsAnsweredAreNew(t *testing.T) {
	for _, m := range plain() {
		s := bytesOf(m)
		one, _ := Decode(s, 3)
		two, _ := Decode(s, 3)
		for i := range one.Entries {
			one.Entries[i] = entry(8, 8)
		}
		_ = append(one.Entries, entry(8, 8))
		three, err := Decode(s, 3)
		if !same(two, m) || !same(three, m) || err != okay {
			t.Fatalf("Decode(%q, 3) = %+v, %+v %d, when an answer was written into", s, two, three, err)
		}
	}
}

// P11.1: what a call answers hangs on its arguments alone: behind calls that told errors, and behind others, it is the
// same again.
func TestCallsAgain(t *testing.T) {
	for range 3 {
		for _, m := range plain() {
			wantGood(t, m, 3, bytesOf(m))
			wantBad(t, m, 8)
			wantBad(t, api.Mail{Kind: -1, Stream: 9}, 3)
			wantNoMail(t, "\xff\xff", 3)
			wantNoMail(t, bytesOf(m)+bytesOf(m), 3)
		}
	}
}
