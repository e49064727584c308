package records

import (
	"math"
	"math/rand"
	"slices"
	"strings"
	"testing"

	"archipelago/api"
)

// someRecords are the plain records, and as many random ones.
func someRecords(r *rand.Rand, count int) []api.Record {
	l := plain()
	for range count {
		l = append(l, randomRecord(r))
	}
	return l
}

// P10.1: no bytes, each byte alone, any two, and marks of a number that is 0 or 1, few and many.
func TestShortTexts(t *testing.T) {
	wantNoRecord(t, "")
	for a := range 256 {
		wantNoRecord(t, string([]byte{byte(a)}))
		for b := range 256 {
			wantNoRecord(t, string([]byte{byte(a), byte(b)}))
		}
	}
	for size := range 1000 {
		for b := range 12 {
			wantAsRead(t, strings.Repeat(string([]byte{byte(b)}), size))
		}
	}
}

// P10.1: all texts of eight and nine bytes that are each one of some: so all short records, and many that are almost one.
func TestSmallBytes(t *testing.T) {
	found := 0
	var grow func(s string, size int)
	grow = func(s string, size int) {
		if len(s) == size {
			if wantAsRead(t, s) {
				found++
			}
			return
		}
		some := "\x00\x02\x04"
		if len(s) == 0 {
			some = "\x00\x02\x04\x06\x08\x0a\x0c\x01"
		}
		for i := range len(some) {
			grow(s+some[i:i+1], size)
		}
	}
	grow("", 8)
	grow("", 9)
	grow("", 10)
	if found < 30 {
		t.Errorf("only %d texts were records", found)
	}
}

// P10.1, P10.2: bytes of a record that are cut off at any place, from behind or from the front, are those of none, or of
// another one.
func TestCutOff(t *testing.T) {
	r := rand.New(rand.NewSource(102))
	for _, x := range someRecords(r, 300) {
		s := bytesOf(x)
		wantGood(t, x, s)
		for end := range len(s) {
			wantNoRecord(t, s[:end])
		}
		for from := 1; from <= len(s); from++ {
			wantAsRead(t, s[from:])
		}
	}
}

// P10.1, P10.2: bytes of a record with any byte behind, or several, or those of a record once more, are those of none.
func TestMoreBehind(t *testing.T) {
	r := rand.New(rand.NewSource(103))
	for _, x := range someRecords(r, 200) {
		s := bytesOf(x)
		for b := range 256 {
			wantNoRecord(t, s+string([]byte{byte(b)}))
		}
		for _, more := range []string{s, bytesOf(randomRecord(r)), "\x00\x00", "\x80\x80", "\xff\xff\xff", strings.Repeat("\x02", 5000)} {
			wantNoRecord(t, s+more)
		}
	}
}

// P10.1: any byte at any place, put in or in the place of another one: what the second hand reads is told.
func TestAnyByteAnywhere(t *testing.T) {
	for _, x := range plain() {
		s := bytesOf(x)
		for b := range 256 {
			one := string([]byte{byte(b)})
			for at := range len(s) + 1 {
				wantAsRead(t, s[:at]+one+s[at:])
				if at < len(s) {
					wantAsRead(t, s[:at]+one+s[at+1:])
				}
			}
		}
	}
}

// P10.1: of each number of a record, a mark that is not the shortest one, by one byte or by several, is none.
func TestMarksThatAreTooLong(t *testing.T) {
	for _, x := range plain() {
		l := numbersOf(x)
		for i := range l {
			ahead, behind := marksOf(l[:i]...), marksOf(l[i+1:]...)
			mark := []byte(marksOf(l[i]))
			wantGood(t, x, ahead+string(mark)+behind)
			mark[len(mark)-1] |= 128
			for size := len(mark); size < 12; size++ {
				wantNoRecord(t, ahead+string(mark)+"\x00"+behind)
				mark = append(mark, 128)
			}
		}
	}
}

// P10.1: in the place of each number, bytes that are no mark at all: such that go on without an end, or beyond what an
// int has; and no bytes.
func TestMarksThatAreNone(t *testing.T) {
	for _, x := range plain() {
		l := numbersOf(x)
		for i := range l {
			ahead, behind := marksOf(l[:i]...), marksOf(l[i+1:]...)
			wantNoRecord(t, ahead)
			wantAsRead(t, ahead+behind)
			for size := 1; size <= 12; size++ {
				for _, b := range []string{"\x80", "\x81", "\xfe", "\xff"} {
					wantNoRecord(t, ahead+strings.Repeat(b, size))
					wantAsRead(t, ahead+strings.Repeat(b, size)+behind)
				}
				for _, last := range []string{"\x00", "\x01", "\x02", "\x7f"} {
					wantAsRead(t, ahead+strings.Repeat("\x80", size)+last+behind)
					wantAsRead(t, ahead+strings.Repeat("\xff", size)+last+behind)
				}
			}
		}
	}
}

// P10.1: marks of all edges in the place of each number: also in that of how many entries or spots there are.
func TestAnotherNumberAnywhere(t *testing.T) {
	edges := allEdges()
	for _, x := range plain() {
		l := numbersOf(x)
		for i := range l {
			for _, n := range edges {
				m := slices.Clone(l)
				m[i] = n
				wantAsRead(t, marksOf(m...))
			}
		}
	}
}

// P10.1: bytes that say more entries or spots than stand there, fewer, fewer than none, as many as the greatest int.
func TestOtherCounts(t *testing.T) {
	counts := []int{math.MinInt, math.MinInt + 1, -257, -256, -65, -64, -3, -2, -1, 64, 65, 66, 128, 255, 256, 257, 1000,
		1 << 20, 1 << 30, 1<<31 - 1, 1 << 31, 1 << 32, 1<<32 + 3, 1 << 40, 1<<62 - 1, 1 << 62, math.MaxInt - 1, math.MaxInt}
	for stand := range 5 {
		view := numbersOf(api.Record{Kind: 2, Stream: 1, Epoch: 4, Entries: entries(1, stand)})
		base := numbersOf(api.Record{Kind: 4, Stream: 1, Entries: entries(1, stand)})
		feed := numbersOf(api.Record{Kind: 5, Feed: spots(stand)})
		for _, count := range append(counts, 0, 1, 2, 3, 4, 5, 6) {
			if count == stand {
				continue
			}
			view[6], base[6], feed[7] = count, count, count
			wantNoRecord(t, marksOf(feed...))
			wantAsRead(t, marksOf(view...))
			wantAsRead(t, marksOf(base...))
			if count < 0 || count > stand {
				wantNoRecord(t, marksOf(view...))
				wantNoRecord(t, marksOf(base...))
			}
			both := slices.Clone(view)
			both[len(both)-1] = count
			wantNoRecord(t, marksOf(both...))
		}
	}
}

// P10.1: bytes that say one entry or spot less or more than may be, where just so many stand.
func TestCountsAtTheMost(t *testing.T) {
	for _, stand := range []int{63, 64, 65, 66} {
		for said := stand - 1; said <= stand+1; said++ {
			l := numbersOf(api.Record{Kind: 2, Stream: 0, Epoch: 1, Entries: entries(0, stand)})
			l[6] = said
			if wantAsRead(t, marksOf(l...)) != (said == stand && stand <= 64) {
				t.Fatalf("%d entries, of which %d are said: not as wanted", stand, said)
			}
		}
	}
	for _, stand := range []int{255, 256, 257, 258} {
		for said := stand - 1; said <= stand+1; said++ {
			l := numbersOf(api.Record{Kind: 5, Feed: spots(stand)})
			l[7] = said
			if wantAsRead(t, marksOf(l...)) != (said == stand && stand <= 256) {
				t.Fatalf("%d spots, of which %d are said: not as wanted", stand, said)
			}
		}
	}
}

// P10.1: bytes that say very many entries or spots, and have them, are those of none, and few of them are gone through.
func TestVeryManyThere(t *testing.T) {
	const many = 200000
	entry := marksOf(1, 1, 0, -1, 1, 1)
	wantNoRecord(t, marksOf(2, 0, 1, 0, 0, 0, many)+strings.Repeat(entry, many)+marksOf(0))
	wantNoRecord(t, marksOf(4, 0, 1, 0, 0, 0, many)+strings.Repeat(entry, many)+marksOf(0))
	wantNoRecord(t, marksOf(5, 0, 0, 0, 0, 0, 0, many)+strings.Repeat(marksOf(1, 1), many))
	for _, ahead := range []string{marksOf(2, 0, 1, 0, 0, 0, many) + strings.Repeat(entry, many), marksOf(5, 0, 0, 0, 0, 0, 0, many)} {
		if n := testing.AllocsPerRun(10, func() { Decode(ahead) }); n > 20 {
			t.Errorf("%v things are laid in memory for bytes of no record", n)
		}
	}
}

// P10.1: too few marks, and too many, each that of one number.
func TestAnotherNumberOfMarks(t *testing.T) {
	for count := range 600 {
		for n := range 6 {
			wantAsRead(t, marksOf(slices.Repeat([]int{n}, count)...))
		}
	}
}

// P10.1: what a text tells with each kind's number ahead of what another kind has.
func TestBytesOfOtherKinds(t *testing.T) {
	for _, x := range plain() {
		for kind := -2; kind < 9; kind++ {
			l := numbersOf(x)
			l[0] = kind
			wantAsRead(t, marksOf(l...))
		}
	}
}

// P10.1, P10.2: random texts, of any bytes, of small ones, of marks, of a record's bytes with some changed: what the second
// hand reads is told, and what is decoded is encoded to just that text.
func TestRandomTexts(t *testing.T) {
	r := rand.New(rand.NewSource(104))
	found := 0
	for i := range 150000 {
		var s string
		switch i % 5 {
		case 0:
			b := make([]byte, r.Intn(40))
			r.Read(b)
			s = string(b)
		case 1:
			s = string([]byte{byte(2 + 2*r.Intn(5)), byte(2 * r.Intn(4)), byte(r.Intn(9)), byte(r.Intn(2)), byte(r.Intn(9)), 0, 0, 0})
		case 2:
			l := make([]int, 7+r.Intn(12))
			for k := range l {
				l[k] = int(r.Uint64()) >> (40 + r.Intn(24))
			}
			s = marksOf(l...)
		case 3:
			b := []byte(bytesOf(randomRecord(r)))
			b[r.Intn(len(b))] ^= byte(1) << r.Intn(8)
			s = string(b)
		case 4:
			l := numbersOf(randomRecord(r))
			l[r.Intn(len(l))] += r.Intn(5) - 2
			s = marksOf(l...)
		}
		if wantAsRead(t, s) {
			found++
		}
	}
	if found < 10000 {
		t.Errorf("only %d texts were records", found)
	}
}

// P10.2: unlike records have unlike bytes.
func TestUnlikeBytes(t *testing.T) {
	r := rand.New(rand.NewSource(105))
	told := map[string]api.Record{}
	for _, x := range someRecords(r, 30000) {
		s, err := Encode(x)
		if other, ok := told[s]; err != okay || ok && !equal(other, x) {
			t.Fatalf("%+v has %q (error %d), as %+v has", x, s, err, other)
		}
		told[s] = x
	}
}

// P10.1: lists that are handed in stay as they were, also behind their end, and are not kept.
func TestListsHandedInStay(t *testing.T) {
	for _, x := range plain() {
		x.Entries, x.Feed = append(x.Entries, entry(9, 9)), append(x.Feed, api.Spot{Stream: 9, Index: 9})
		was := copyOf(x)
		whole := x
		x.Entries, x.Feed = x.Entries[:len(x.Entries)-1], x.Feed[:len(x.Feed)-1]
		s := bytesOf(x)
		wantGood(t, x, s)
		if !equal(whole, was) {
			t.Fatalf("%+v became %+v", was, whole)
		}
		for i := range x.Entries {
			x.Entries[i] = entry(8, 8)
		}
		for i := range x.Feed {
			x.Feed[i] = api.Spot{Stream: 8, Index: 8}
		}
		if back, err := Decode(s); err != okay || bytesOf(back) != s {
			t.Fatalf("Decode(%q) = %+v %d, when the record's lists were written into", s, back, err)
		}
	}
}

// P10.1: lists that are answered are new: what is written into those of one answer, or behind them, no other answer has.
func TestListsAnsweredAreNew(t *testing.T) {
	for _, x := range plain() {
		s := bytesOf(x)
		one, _ := Decode(s)
		two, _ := Decode(s)
		for i := range one.Entries {
			one.Entries[i] = entry(8, 8)
		}
		for i := range one.Feed {
			one.Feed[i] = api.Spot{Stream: 8, Index: 8}
		}
		_, _ = append(one.Entries, entry(8, 8)), append(one.Feed, api.Spot{Stream: 8})
		three, err := Decode(s)
		if !equal(two, x) || !equal(three, x) || err != okay {
			t.Fatalf("Decode(%q) = %+v, %+v %d, when an answer was written into", s, two, three, err)
		}
	}
}

// P10.1: what a call answers hangs on its argument alone: behind calls that told errors, and behind others, it is the same
// again.
func TestCallsAgain(t *testing.T) {
	for range 3 {
		for _, x := range plain() {
			wantGood(t, x, bytesOf(x))
			wantBad(t, api.Record{Kind: -1, Stream: 9})
			wantNoRecord(t, "\xff\xff")
			wantNoRecord(t, bytesOf(x)+bytesOf(x))
		}
	}
}
