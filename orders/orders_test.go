package orders

import (
	"encoding/binary"
	"math"
	"math/rand"
	"slices"
	"strings"
	"testing"

	"archipelago/api"
)

// The document's numbers, which the program is to have.
const (
	okay     = api.Errno(0)
	errArg   = api.Errno(2)
	errForm  = api.Errno(30)
	topID    = 2147483647
	topArg   = 1048576
	lastKind = 4
)

// numbers are an order's fields, in the order in which they are written down.
type numbers [5]int

// names are the fields' names, for what is told of a fault.
var names = [5]string{"ID", "Stream", "Expect", "Kind", "Arg"}

// least and most are of each field the least and the greatest that may be, by the chapter's words.
var (
	least = numbers{1, 0, -1, 1, -topArg}
	most  = numbers{topID, 3, topID, lastKind, topArg}
)

// order is the order of these fields.
func (f numbers) order() api.Order {
	return api.Order{ID: f[0], Stream: f[1], Expect: f[2], Kind: f[3], Arg: f[4]}
}

// of is the order's fields.
func of(o api.Order) numbers {
	return numbers{o.ID, o.Stream, o.Expect, o.Kind, o.Arg}
}

// with is the same fields, but for one.
func (f numbers) with(field, n int) numbers {
	f[field] = n
	return f
}

// mayBe tells whether the order may be, by the chapter's words alone, field by field.
func mayBe(o api.Order) bool {
	id := o.ID >= 1 && o.ID <= topID
	stream := o.Stream == 0 || o.Stream == 1 || o.Stream == 2 || o.Stream == 3
	expect := o.Expect == -1 || o.Expect >= 0 && o.Expect <= topID
	kind := o.Kind == 1 || o.Kind == 2 || o.Kind == 3 || o.Kind == 4
	arg := o.Arg >= -topArg && o.Arg <= topArg
	return id && stream && expect && kind && arg
}

// markOf is an int's mark by another hand than the program's.
func markOf(n int) string {
	return string(binary.AppendVarint(nil, int64(n)))
}

// marksOf are the ints' marks, one behind the other.
func marksOf(l ...int) string {
	var b []byte
	for _, n := range l {
		b = binary.AppendVarint(b, int64(n))
	}
	return string(b)
}

// bytesOf are the order's bytes by the chapter's words, without the package, also where it may not be.
func bytesOf(o api.Order) string {
	return marksOf(o.ID, o.Stream, o.Expect, o.Kind, o.Arg)
}

// read is the order whose bytes these are, by another hand than the program's: any order whose bytes are not just
// these, or that may not be, is none.
func read(s string) (api.Order, bool) {
	var f numbers
	rest := []byte(s)
	for i := range f {
		n, size := binary.Varint(rest)
		if size <= 0 {
			return api.Order{}, false
		}
		f[i] = int(n)
		rest = rest[size:]
	}
	o := f.order()
	if bytesOf(o) != s || !mayBe(o) {
		return api.Order{}, false
	}
	return o, true
}

// edges are of each field ints that may be: the least and the greatest, and those around each int at which a mark has a
// byte more.
func edges(field int) []int {
	l := []int{least[field], least[field] + 1, -1, 0, 1, 2, 3, 4, 5, most[field] - 1, most[field]}
	for bits := 6; bits < 32; bits += 7 {
		edge := 1 << bits
		l = append(l, edge-1, edge, edge+1, -edge-1, -edge, -edge+1)
	}
	l = slices.DeleteFunc(l, func(n int) bool { return n < least[field] || n > most[field] })
	slices.Sort(l)
	return slices.Compact(l)
}

// wrong are of each field ints that may not be: one less than the least and one more than the greatest, those further
// away, the least and the greatest int, and those that would be right again if bits at the top were lost.
func wrong(field int) []int {
	l := []int{least[field] - 1, least[field] - 2, most[field] + 1, most[field] + 2, math.MinInt, math.MinInt + 1,
		math.MaxInt - 1, math.MaxInt, math.MinInt32, math.MinInt32 - 1, math.MaxInt32 + 1, math.MaxUint32, -100, -2}
	for bits := 8; bits < 64; bits++ {
		l = append(l, 1<<bits+1, -(1<<bits)-1, 1<<bits+most[field], -(1<<bits)+least[field])
	}
	return slices.DeleteFunc(l, func(n int) bool { return n >= least[field] && n <= most[field] })
}

// plain are some orders that may be, of which no field is at an edge in all.
func plain() []numbers {
	return []numbers{{7, 1, -1, 2, 100}, {1, 0, 0, 1, 1}, {300, 2, 64, 3, -8192}, {99999, 3, 5, 4, 0}, least, most}
}

// randomOrder is an order that may be: each field at any size, one in four at an edge.
func randomOrder(r *rand.Rand) api.Order {
	var f numbers
	for i := range f {
		size := most[i] - least[i] + 1
		f[i] = least[i] + r.Intn(size)>>r.Intn(32)
		if r.Intn(4) == 0 {
			l := edges(i)
			f[i] = l[r.Intn(len(l))]
		}
	}
	return f.order()
}

// someOrders are the plain orders, and as many random ones.
func someOrders(r *rand.Rand, count int) []api.Order {
	var l []api.Order
	for _, f := range plain() {
		l = append(l, f.order())
	}
	for range count {
		l = append(l, randomOrder(r))
	}
	return l
}

// wantGood wants an order to be one that may be, with just these bytes, out of which it comes again.
func wantGood(t *testing.T, o api.Order, want string) {
	t.Helper()
	if err := Check(o); err != okay {
		t.Fatalf("Check(%+v) = %d, want 0", o, err)
	}
	if s, err := Encode(o); s != want || err != okay {
		t.Fatalf("Encode(%+v) = %q %d, want %q 0", o, s, err, want)
	}
	if back, err := Decode(want); back != o || err != okay {
		t.Fatalf("Decode(%q) = %+v %d, want %+v 0", want, back, err, o)
	}
}

// wantBad wants an order to be one that may not be, and its marks the bytes of none.
func wantBad(t *testing.T, o api.Order) {
	t.Helper()
	if err := Check(o); err != errArg {
		t.Fatalf("Check(%+v) = %d, want 2", o, err)
	}
	if s, err := Encode(o); s != "" || err != errArg {
		t.Fatalf("Encode(%+v) = %q %d, want none and 2", o, s, err)
	}
	wantNoOrder(t, bytesOf(o))
}

// wantNoOrder wants a text to be the bytes of no order.
func wantNoOrder(t *testing.T, s string) {
	t.Helper()
	if o, err := Decode(s); o != (api.Order{}) || err != errForm {
		t.Fatalf("Decode(%q) = %+v %d, want none and 30", s, o, err)
	}
}

// wantAsRead wants Decode to tell of a text what the second hand reads; it tells whether that is an order.
func wantAsRead(t *testing.T, s string) bool {
	t.Helper()
	o, ok := read(s)
	if ok {
		wantGood(t, o, s)
	} else {
		wantNoOrder(t, s)
	}
	return ok
}

// P9.1: the chapter's examples.
func TestExamples(t *testing.T) {
	o := api.Order{ID: 7, Stream: 1, Expect: -1, Kind: api.OrAdd, Arg: 100}
	bytes := string([]byte{14, 2, 1, 4, 200, 1})
	wantGood(t, o, bytes)
	for _, bad := range []api.Order{
		{ID: 0, Stream: 1, Expect: -1, Kind: api.OrAdd, Arg: 100},
		{ID: 7, Stream: 4, Expect: -1, Kind: api.OrAdd, Arg: 100},
		{ID: 7, Stream: 1, Expect: -2, Kind: api.OrAdd, Arg: 100},
		{ID: 7, Stream: 1, Expect: -1, Kind: 5, Arg: 100},
		{ID: 7, Stream: 1, Expect: -1, Kind: api.OrAdd, Arg: 1<<20 + 1},
	} {
		wantBad(t, bad)
	}
	wantNoOrder(t, "")
	wantNoOrder(t, bytes[:len(bytes)-1])
	for b := range 256 {
		wantNoOrder(t, bytes+string([]byte{byte(b)}))
	}
}

// P9.1: api has the document's numbers.
func TestNumbers(t *testing.T) {
	if api.OK != okay || api.ErrArg != errArg || api.ErrForm != errForm {
		t.Errorf("OK, ErrArg, ErrForm = %d, %d, %d, want 0, 2, 30", api.OK, api.ErrArg, api.ErrForm)
	}
	if api.MaxStreams != most[1]+1 || api.MaxArg != topArg {
		t.Errorf("MaxStreams, MaxArg = %d, %d, want 4, 1048576", api.MaxStreams, api.MaxArg)
	}
	if kinds := [4]int{api.OrOpen, api.OrAdd, api.OrTake, api.OrClose}; kinds != [4]int{1, 2, 3, 4} {
		t.Errorf("the kinds are %v, want 1 to 4", kinds)
	}
}

// P9.1: bytes written down by hand, with marks of one byte and of five.
func TestBytesByHand(t *testing.T) {
	for _, x := range []struct {
		o     api.Order
		bytes []byte
	}{
		{api.Order{ID: 1, Stream: 0, Expect: -1, Kind: 1, Arg: -1 << 20}, []byte{2, 0, 1, 2, 255, 255, 127}},
		{api.Order{ID: 1<<31 - 1, Stream: 3, Expect: 1<<31 - 1, Kind: 4, Arg: 1 << 20},
			[]byte{254, 255, 255, 255, 15, 6, 254, 255, 255, 255, 15, 8, 128, 128, 128, 1}},
		{api.Order{ID: 63, Stream: 2, Expect: 64, Kind: 3, Arg: -65}, []byte{126, 4, 128, 1, 6, 129, 1}},
		{api.Order{ID: 5, Stream: 0, Expect: -1, Kind: 1, Arg: 1}, []byte{10, 0, 1, 2, 2}},
		{api.Order{ID: 1, Stream: 1, Expect: 1, Kind: 1, Arg: 1}, []byte{2, 2, 2, 2, 2}},
		{api.Order{ID: 1, Stream: 0, Expect: 2, Kind: 3, Arg: 4}, []byte{2, 0, 4, 6, 8}},
	} {
		wantGood(t, x.o, string(x.bytes))
	}
}

// P9.1: each field at each of its edges, the others plain, at their least, at their greatest.
func TestEachFieldAtItsEdges(t *testing.T) {
	for _, f := range plain() {
		wantGood(t, f.order(), bytesOf(f.order()))
		for field := range f {
			for _, n := range edges(field) {
				o := f.with(field, n).order()
				wantGood(t, o, bytesOf(o))
			}
		}
	}
}

// P9.1: one field that may not be, the others plain, at their least, at their greatest: ErrArg, and its marks are the
// bytes of no order.
func TestEachFieldWrong(t *testing.T) {
	for _, f := range plain() {
		for field := range f {
			for _, n := range wrong(field) {
				o := f.with(field, n).order()
				if mayBe(o) {
					t.Fatalf("the test itself is wrong: %s %d may be", names[field], n)
				}
				wantBad(t, o)
			}
		}
	}
}

// P9.1: of each field one less than the least and one more than the greatest, and between them each int of the short
// fields.
func TestFieldsCountedThrough(t *testing.T) {
	f := numbers{7, 1, -1, 2, 100}
	for field := range f {
		for _, end := range []int{least[field], most[field]} {
			for n := end - 10; n <= end+10; n++ {
				o := f.with(field, n).order()
				if n < least[field] || n > most[field] {
					wantBad(t, o)
				} else {
					wantGood(t, o, bytesOf(o))
				}
			}
		}
	}
	for arg := -topArg; arg <= topArg; arg++ {
		o := f.with(4, arg).order()
		if err := Check(o); err != okay {
			t.Fatalf("Check(%+v) = %d, want 0", o, err)
		}
	}
}

// P9.1: several fields that may not be: each set of them, each too small or too great.
func TestSeveralFieldsWrong(t *testing.T) {
	for _, f := range plain() {
		for set := 1; set < 32; set++ {
			for side := range 32 {
				g := f
				for field := range g {
					if set>>field&1 == 0 {
						continue
					}
					g[field] = least[field] - 1
					if side>>field&1 == 1 {
						g[field] = most[field] + 1
					}
				}
				wantBad(t, g.order())
			}
		}
	}
	wantBad(t, api.Order{})
	for _, n := range []int{math.MinInt, math.MinInt + 1, -1, 0, 5, math.MaxInt32 + 1, math.MaxInt - 1, math.MaxInt} {
		wantBad(t, numbers{n, n, n, n, n}.order())
	}
}

// P9.1, P9.2: bytes that are cut off at any place, from behind or from the front, are those of no order, or of another
// one.
func TestCutOff(t *testing.T) {
	r := rand.New(rand.NewSource(91))
	for _, o := range someOrders(r, 500) {
		s := bytesOf(o)
		wantGood(t, o, s)
		for end := range len(s) {
			wantNoOrder(t, s[:end])
		}
		for from := 1; from <= len(s); from++ {
			wantAsRead(t, s[from:])
		}
	}
}

// P9.1, P9.2: bytes of an order with any byte behind, or several, or those of an order once more, are those of none.
func TestMoreBehind(t *testing.T) {
	r := rand.New(rand.NewSource(92))
	for _, o := range someOrders(r, 200) {
		s := bytesOf(o)
		for b := range 256 {
			wantNoOrder(t, s+string([]byte{byte(b)}))
		}
		for _, more := range []string{s, bytesOf(randomOrder(r)), "\x00\x00", "\x80\x80", "\xff\xff\xff", strings.Repeat("\x02", 5000)} {
			wantNoOrder(t, s+more)
		}
	}
}

// P9.1: any byte ahead, and any byte at any place: what the second hand reads is told.
func TestAnyByteAnywhere(t *testing.T) {
	for _, f := range plain() {
		s := bytesOf(f.order())
		for b := range 256 {
			one := string([]byte{byte(b)})
			for at := range len(s) + 1 {
				wantAsRead(t, s[:at]+one+s[at:])
				if at < len(s) {
					wantAsRead(t, s[:at]+one+s[at+1:])
				}
			}
		}
	}
}

// P9.1: of each field, a mark that is not the shortest one of its number, by one byte or by several, is none.
func TestMarksThatAreTooLong(t *testing.T) {
	for _, f := range plain() {
		for field := range f {
			ahead, behind := marksOf(f[:field]...), marksOf(f[field+1:]...)
			mark := []byte(markOf(f[field]))
			wantGood(t, f.order(), ahead+string(mark)+behind)
			mark[len(mark)-1] |= 128
			for size := len(mark); size < 12; size++ {
				wantNoOrder(t, ahead+string(mark)+"\x00"+behind)
				mark = append(mark, 128)
			}
		}
	}
}

// P9.1: of each field, bytes that are no mark at all: such that go on without an end, or beyond what an int has.
func TestMarksThatAreNone(t *testing.T) {
	f := numbers{7, 1, -1, 2, 100}
	for field := range f {
		ahead, behind := marksOf(f[:field]...), marksOf(f[field+1:]...)
		wantNoOrder(t, ahead)
		wantNoOrder(t, ahead+behind)
		for size := 1; size <= 12; size++ {
			for _, b := range []string{"\x80", "\x81", "\xfe", "\xff"} {
				wantNoOrder(t, ahead+strings.Repeat(b, size))
			}
			wantNoOrder(t, ahead+strings.Repeat("\x80", size)+"\x00"+behind)
			wantAsRead(t, ahead+strings.Repeat("\x80", size)+"\x01"+behind)
			wantAsRead(t, ahead+strings.Repeat("\x82", size)+"\x01"+behind)
			wantAsRead(t, ahead+strings.Repeat("\xff", size)+"\x01"+behind)
			wantAsRead(t, ahead+strings.Repeat("\xff", size)+"\x02"+behind)
		}
		// A second mark of the same number, if the bits beyond an int were let go.
		for _, n := range []int{f[field], least[field], most[field]} {
			mark := binary.AppendUvarint(nil, uint64(n)<<1^uint64(n>>63))
			for len(mark) < 9 {
				mark[len(mark)-1] |= 128
				mark = append(mark, 0)
			}
			mark[8] |= 128
			wantNoOrder(t, ahead+string(mark)+"\x02"+behind)
			wantNoOrder(t, ahead+string(mark)+"\x80\x01"+behind)
		}
	}
}

// P9.1: too few marks, and too many, each that of an int which may be in any field.
func TestAnotherNumberOfMarks(t *testing.T) {
	for count := range 12 {
		l := slices.Repeat([]int{1}, count)
		if ok := wantAsRead(t, marksOf(l...)); ok != (count == 5) {
			t.Fatalf("%d marks: %v", count, ok)
		}
	}
}

// P9.1: all texts of up to two bytes, and those of three to six of which each byte is one of some at edges, are told as
// the second hand reads them.
func TestShortTexts(t *testing.T) {
	wantNoOrder(t, "")
	for a := range 256 {
		wantNoOrder(t, string([]byte{byte(a)}))
		for b := range 256 {
			wantNoOrder(t, string([]byte{byte(a), byte(b)}))
		}
	}
	some := []byte{0, 1, 2, 3, 6, 8, 9, 10, 127, 128, 129, 255}
	found := 0
	var grow func(s string)
	grow = func(s string) {
		if len(s) >= 3 && wantAsRead(t, s) {
			found++
		}
		if len(s) == 6 || len(s) == 5 && s[4] > 3 {
			return
		}
		for _, b := range some {
			grow(s + string([]byte{b}))
		}
	}
	grow("")
	if found < 1000 {
		t.Errorf("only %d texts were orders", found)
	}
}

// P9.1, P9.2: random orders, of which each field may be or not, are told as the chapter says it, there and back.
func TestRandomOrders(t *testing.T) {
	r := rand.New(rand.NewSource(93))
	for range 50000 {
		o := randomOrder(r)
		wantGood(t, o, bytesOf(o))
		f := of(o)
		for field := range f {
			if r.Intn(3) == 0 {
				f[field] = int(r.Uint64()) >> r.Intn(64)
			}
		}
		if o = f.order(); mayBe(o) {
			wantGood(t, o, bytesOf(o))
		} else {
			wantBad(t, o)
		}
	}
}

// P9.1, P9.2: random texts, of any bytes, of small ones, of marks, of an order's bytes with some changed: what the second
// hand reads is told, and what is decoded is encoded to just that text.
func TestRandomTexts(t *testing.T) {
	r := rand.New(rand.NewSource(94))
	found := 0
	for i := range 200000 {
		var b []byte
		switch i % 4 {
		case 0:
			for range r.Intn(12) {
				b = append(b, byte(r.Intn(256)))
			}
		case 1:
			for range 5 {
				b = append(b, byte(r.Intn(10)))
			}
		case 2:
			for range 4 + r.Intn(3) {
				b = binary.AppendVarint(b, int64(r.Uint64())>>(32+r.Intn(32)))
			}
		case 3:
			b = []byte(bytesOf(randomOrder(r)))
			b[r.Intn(len(b))] ^= byte(1) << r.Intn(8)
		}
		if wantAsRead(t, string(b)) {
			found++
		}
	}
	if found < 10000 {
		t.Errorf("only %d texts were orders", found)
	}
}

// manyOrders are orders of which each field is at each of some edges, with those of all others.
func manyOrders() []api.Order {
	var l []api.Order
	for _, id := range edges(0) {
		for stream := range 4 {
			for _, expect := range edges(2) {
				for kind := 1; kind <= lastKind; kind++ {
					for _, arg := range []int{-topArg, -8193, -65, -64, -1, 0, 1, 63, 64, 8192, topArg} {
						l = append(l, api.Order{ID: id, Stream: stream, Expect: expect, Kind: kind, Arg: arg})
					}
				}
			}
		}
	}
	return l
}

// P9.2: unlike orders have unlike bytes, of which none begins with another one's. (In a list in order, a text with which
// any other one begins has such a one right behind it.)
func TestNoneBeginsWithAnother(t *testing.T) {
	l := manyOrders()
	r := rand.New(rand.NewSource(95))
	for range 50000 {
		l = append(l, randomOrder(r))
	}
	told := map[string]api.Order{}
	var texts []string
	for _, o := range l {
		s, err := Encode(o)
		if err != okay {
			t.Fatalf("Encode(%+v) = %d, want 0", o, err)
		}
		if other, ok := told[s]; ok && other != o {
			t.Fatalf("%+v and %+v have both %q", o, other, s)
		}
		if back, err := Decode(s); back != o || err != okay {
			t.Fatalf("Decode(%q) = %+v %d, want %+v 0", s, back, err, o)
		}
		told[s] = o
		texts = append(texts, s)
	}
	slices.Sort(texts)
	texts = slices.Compact(texts)
	for i := 1; i < len(texts); i++ {
		if strings.HasPrefix(texts[i], texts[i-1]) {
			t.Fatalf("%+v has %q, with which %q of %+v begins", told[texts[i-1]], texts[i-1], texts[i], told[texts[i]])
		}
	}
}

// P9.1: what a call answers hangs on its argument alone: behind calls that told errors, and behind others, it is the same
// again.
func TestCallsAgain(t *testing.T) {
	good, bad := plain()[0].order(), api.Order{ID: -1, Stream: 9}
	for range 3 {
		wantGood(t, good, bytesOf(good))
		wantBad(t, bad)
		wantNoOrder(t, "\xff\xff")
		wantNoOrder(t, bytesOf(good)+bytesOf(good))
		wantGood(t, most.order(), bytesOf(most.order()))
	}
}
