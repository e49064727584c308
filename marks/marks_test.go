package marks

import (
	"math"
	"math/big"
	"math/rand"
	"slices"
	"strings"
	"testing"
)

// markOf is an int's mark by the chapter's words alone, in big numbers: without shifts, and without the package.
func markOf(n int) string {
	rest := new(big.Int).Mul(big.NewInt(int64(n)), big.NewInt(2))
	if n < 0 {
		rest.Neg(rest).Sub(rest, big.NewInt(1))
	}
	var groups []byte
	for len(groups) == 0 || rest.Sign() > 0 {
		group := new(big.Int)
		rest.QuoRem(rest, big.NewInt(128), group)
		groups = append(groups, byte(group.Int64()))
	}
	for i := range len(groups) - 1 {
		groups[i] += 128
	}
	return string(groups)
}

// intsAtEdges are the least and the greatest int, and those around each int at which a mark has a byte more.
func intsAtEdges() []int {
	l := []int{0, 1, -1, 2, -2, 300, -300, math.MinInt, math.MinInt + 1, math.MaxInt - 1, math.MaxInt}
	for bits := 6; bits < 63; bits += 7 {
		edge := 1 << bits
		l = append(l, edge-2, edge-1, edge, edge+1, -edge-2, -edge-1, -edge, -edge+1)
	}
	return l
}

// intsOfAllSizes are many ints, with few bits and with many.
func intsOfAllSizes(r *rand.Rand, count int) []int {
	l := make([]int, count)
	for i := range l {
		l[i] = int(r.Uint64()) >> r.Intn(64)
	}
	return l
}

func wantInt(t *testing.T, s string, at, n, next int) {
	t.Helper()
	if m, behind, ok := Get(s, at); m != n || behind != next || !ok {
		t.Errorf("Get(%q, %d) = %d %d %v, want %d %d true", s, at, m, behind, ok, n, next)
	}
}

func wantNoInt(t *testing.T, s string, at int) {
	t.Helper()
	if n, next, ok := Get(s, at); n != 0 || next != 0 || ok {
		t.Errorf("Get(%q, %d) = %d %d %v, want none", s, at, n, next, ok)
	}
}

func wantText(t *testing.T, s string, at int, text string, next int) {
	t.Helper()
	if u, behind, ok := GetText(s, at); u != text || behind != next || !ok {
		t.Errorf("GetText(%q, %d) = %q %d %v, want %q %d true", s, at, u, behind, ok, text, next)
	}
}

func wantNoText(t *testing.T, s string, at int) {
	t.Helper()
	if u, next, ok := GetText(s, at); u != "" || next != 0 || ok {
		t.Errorf("GetText(%q, %d) = %q %d %v, want none", s, at, u, next, ok)
	}
}

func wantList(t *testing.T, s string, at int, list []int, next int) {
	t.Helper()
	if l, behind, ok := GetAll(s, at); !slices.Equal(l, list) || behind != next || !ok {
		t.Errorf("GetAll(%q, %d) = %v %d %v, want %v %d true", s, at, l, behind, ok, list, next)
	}
}

func wantNoList(t *testing.T, s string, at int) {
	t.Helper()
	if l, next, ok := GetAll(s, at); len(l) != 0 || next != 0 || ok {
		t.Errorf("GetAll(%q, %d) = %v %d %v, want none", s, at, l, next, ok)
	}
}

// P1.1: the chapter's examples.
func TestIntExamples(t *testing.T) {
	for _, x := range []struct {
		n    int
		mark string
	}{
		{0, "\x00"}, {1, "\x02"}, {-1, "\x01"}, {63, "\x7e"}, {-64, "\x7f"}, {64, "\x80\x01"}, {300, "\xd8\x04"},
		{-65, "\x81\x01"}, {8191, "\xfe\x7f"}, {-8192, "\xff\x7f"}, {8192, "\x80\x80\x01"}, {-8193, "\x81\x80\x01"},
		{math.MaxInt, "\xfe\xff\xff\xff\xff\xff\xff\xff\xff\x01"},
		{math.MinInt, "\xff\xff\xff\xff\xff\xff\xff\xff\xff\x01"},
	} {
		if s := Put(x.n); s != x.mark {
			t.Errorf("Put(%d) = %q, want %q", x.n, s, x.mark)
		}
	}
	three := "\xd8\x04\x09"
	wantInt(t, three, 0, 300, 2)
	wantInt(t, three, 1, 2, 2)
	wantInt(t, three, 2, -5, 3)
	wantNoInt(t, three, 3)
	wantNoInt(t, three, -1)
	wantNoInt(t, "\x80", 0)
	wantNoInt(t, "\x80\x00", 0)
	wantInt(t, "\x80\x01", 0, 64, 2)
}

// P1.1: marks are what the chapter's words say, at the edges and between them.
func TestPutByWords(t *testing.T) {
	for _, n := range append(intsAtEdges(), intsOfAllSizes(rand.New(rand.NewSource(1)), 20000)...) {
		if s, want := Put(n), markOf(n); s != want {
			t.Fatalf("Put(%d) = %q, want %q", n, s, want)
		}
	}
}

// P1.1: of all texts of up to two bytes, and with a byte behind them that ends no mark, Get tells just those that
// begin with a mark.
func TestGetOfAllShortTexts(t *testing.T) {
	ints := map[string]int{}
	for n := -8192; n <= 8191; n++ {
		ints[markOf(n)] = n
	}
	check := func(s string) {
		for size := 1; size <= len(s); size++ {
			if n, ok := ints[s[:size]]; ok {
				wantInt(t, s, 0, n, size)
				return
			}
		}
		wantNoInt(t, s, 0)
	}
	check("")
	for a := range 256 {
		one := string([]byte{byte(a)})
		check(one)
		for b := range 256 {
			two := one + string([]byte{byte(b)})
			check(two)
			check(two + "\x80")
			check(two + "\xff")
		}
	}
}

// P1.1: places at which no mark can stand.
func TestIntPlaces(t *testing.T) {
	for _, s := range []string{"", "\x00", "\x02\x04", "\xd8\x04\x09"} {
		for _, at := range []int{math.MinInt, math.MinInt + 1, -len(s), -2, -1, len(s), len(s) + 1, len(s) + 7, math.MaxInt - 1, math.MaxInt} {
			if at == 0 && s != "" {
				continue
			}
			wantNoInt(t, s, at)
		}
	}
}

// P1.1: bytes that are no int's mark, though they look like one.
func TestIntsThatAreNone(t *testing.T) {
	for size := 1; size <= 12; size++ {
		zeros := strings.Repeat("\x80", size)
		ones := strings.Repeat("\xff", size)
		wantNoInt(t, zeros, 0)
		wantNoInt(t, ones, 0)
		wantNoInt(t, zeros+"\x00", 0)
		wantNoInt(t, ones+"\x00", 0)
	}
	nine := strings.Repeat("\xff", 9)
	wantInt(t, nine+"\x01", 0, math.MinInt, 10)
	wantInt(t, nine+"\x01\x01", 0, math.MinInt, 10)
	for last := 2; last < 256; last++ {
		wantNoInt(t, nine+string([]byte{byte(last)}), 0)
		wantNoInt(t, nine+string([]byte{byte(last)})+"\x01", 0)
	}
	for _, lead := range []string{strings.Repeat("\x80", 10), strings.Repeat("\xff", 10), nine + "\x81"} {
		wantNoInt(t, lead+"\x01", 0)
		wantNoInt(t, lead+"\x80\x01", 0)
	}
}

// P1.2: the chapter's examples, and the edges of texts.
func TestTexts(t *testing.T) {
	if s := PutText("abc"); s != "\x06abc" {
		t.Errorf("%q", s)
	}
	if s := PutText(""); s != "\x00" {
		t.Errorf("%q", s)
	}
	wantNoText(t, "\x06ab", 0)
	wantText(t, "\x06abc", 0, "abc", 4)
	wantText(t, "\x06abcd", 0, "abc", 4)
	wantText(t, "\x00", 0, "", 1)
	wantText(t, "xy\x00\x02z", 2, "", 3)
	wantText(t, "xy\x00\x02z", 3, "z", 5)
	for _, size := range []int{1, 63, 64, 65, 8191, 8192, 100000} {
		text := strings.Repeat("\x80\x00q", size)[:size]
		s := PutText(text)
		if s != markOf(size)+text {
			t.Fatalf("PutText of %d bytes", size)
		}
		wantText(t, "\xff"+s+"\x00", 1, text, 1+len(s))
	}
}

// P1.2: texts that are none, by their places or their lengths.
func TestTextsThatAreNone(t *testing.T) {
	for _, at := range []int{math.MinInt, -1, 4, 5, math.MaxInt} {
		wantNoText(t, "\x06abc", at)
	}
	for _, n := range []int{-1, -2, -64, -65, math.MinInt, 4, 5, 64, 1 << 31, math.MaxInt - 1, math.MaxInt} {
		wantNoText(t, markOf(n)+"abc", 0)
	}
	for _, s := range []string{"", "\x80", "\x80\x00", "\x82\x00a", "\x02"} {
		wantNoText(t, s, 0)
	}
}

// P1.2: the chapter's examples, and the edges of lists.
func TestLists(t *testing.T) {
	if s := PutAll([]int{1, -1}); s != "\x04\x02\x01" {
		t.Errorf("%q", s)
	}
	for _, empty := range [][]int{nil, {}} {
		if s := PutAll(empty); s != "\x00" {
			t.Errorf("%q", s)
		}
	}
	wantList(t, "\x02\x04", 0, []int{2}, 2)
	wantList(t, "\x04\x02\x01\x09", 0, []int{1, -1}, 3)
	wantList(t, "\x00", 0, nil, 1)
	wantList(t, "\x09\x00\x09", 1, nil, 2)
	for _, count := range []int{1, 63, 64, 65, 8191, 8192} {
		list := intsOfAllSizes(rand.New(rand.NewSource(int64(count))), count)
		want := markOf(count)
		for _, n := range list {
			want += markOf(n)
		}
		s := PutAll(list)
		if s != want {
			t.Fatalf("PutAll of %d ints", count)
		}
		wantList(t, "\xff"+s+"\x00", 1, list, 1+len(s))
	}
}

// P1.2: lists that are none, by their places, their counts or one of their ints.
func TestListsThatAreNone(t *testing.T) {
	for _, at := range []int{math.MinInt, -1, 3, 4, math.MaxInt} {
		wantNoList(t, "\x04\x02\x01", at)
	}
	for _, n := range []int{-1, -2, -64, -65, math.MinInt, 3, 4, 64, 1 << 31, math.MaxInt - 1, math.MaxInt} {
		wantNoList(t, markOf(n)+"\x02\x01", 0)
	}
	for _, s := range []string{"", "\x80", "\x80\x00", "\x02", "\x02\x80", "\x04\x02", "\x04\x02\x80", "\x04\x80\x00\x02", "\x04\x02\x80\x00", "\x02" + strings.Repeat("\xff", 9) + "\x02"} {
		wantNoList(t, s, 0)
	}
}

// P1.3: what was put is got, whatever stands ahead and behind, and just that; cut off anywhere nothing is.
func TestPutIsGot(t *testing.T) {
	around := []string{"", "\x00", "\x01", "\x80", "\xff", "\xff\xff\xff", "abc"}
	for _, ahead := range around {
		for _, behind := range around {
			at := len(ahead)
			for _, n := range intsAtEdges() {
				mark := Put(n)
				wantInt(t, ahead+mark+behind, at, n, at+len(mark))
			}
			for _, text := range []string{"", "a", "\x00", "\xff", "\x80\x80", strings.Repeat("z", 200)} {
				mark := PutText(text)
				wantText(t, ahead+mark+behind, at, text, at+len(mark))
			}
			for _, list := range [][]int{nil, {0}, {-1, 1}, {math.MinInt, 0, math.MaxInt}, intsAtEdges()} {
				mark := PutAll(list)
				wantList(t, ahead+mark+behind, at, list, at+len(mark))
			}
		}
	}
}

// P1.3: of a mark that is cut off anywhere nothing is got.
func TestCutOff(t *testing.T) {
	for _, ahead := range []string{"", "\x80", "q\x00"} {
		at := len(ahead)
		for _, n := range intsAtEdges() {
			mark := Put(n)
			for size := range len(mark) {
				wantNoInt(t, ahead+mark[:size], at)
			}
		}
		for _, text := range []string{"", "a", "\x00\x00", strings.Repeat("\x00", 200)} {
			mark := PutText(text)
			for size := range len(mark) {
				wantNoText(t, ahead+mark[:size], at)
			}
		}
		for _, list := range [][]int{nil, {0}, {300}, {0, 0, 0}, intsAtEdges()} {
			mark := PutAll(list)
			for size := range len(mark) {
				wantNoList(t, ahead+mark[:size], at)
			}
		}
	}
}

// P1.3: what was got was put: of any bytes, those from at to next are the mark of what was got, and no bytes that are
// a mark are passed by.
func TestGotWasPut(t *testing.T) {
	r := rand.New(rand.NewSource(3))
	got := 0
	for range 100000 {
		bytes := make([]byte, r.Intn(14))
		for i := range bytes {
			bytes[i] = byte(r.Intn(256)) | byte(r.Intn(2))<<7
			if r.Intn(3) == 0 {
				bytes[i] = byte(r.Intn(8))
			}
		}
		s := string(bytes)
		at := r.Intn(len(s) + 1)
		if n, next, ok := Get(s, at); ok {
			got++
			if s[at:next] != markOf(n) {
				t.Fatalf("Get(%q, %d) = %d %d", s, at, n, next)
			}
		}
		if text, next, ok := GetText(s, at); ok {
			got++
			if s[at:next] != PutText(text) {
				t.Fatalf("GetText(%q, %d) = %q %d", s, at, text, next)
			}
		}
		if list, next, ok := GetAll(s, at); ok {
			got++
			if s[at:next] != PutAll(list) {
				t.Fatalf("GetAll(%q, %d) = %v %d", s, at, list, next)
			}
		}
	}
	if got < 10000 {
		t.Error("too few marks among the bytes:", got)
	}
}

// P1.4: an int has a byte more just where its last byte can hold no more; ten at most.
func TestFewBytes(t *testing.T) {
	for size := 1; size <= 9; size++ {
		least, greatest := -1<<(7*size-1), 1<<(7*size-1)-1
		for _, n := range []int{least, least + 1, greatest - 1, greatest} {
			if s := Put(n); len(s) != size {
				t.Errorf("Put(%d) has %d bytes, want %d", n, len(s), size)
			}
		}
		for _, n := range []int{least - 1, greatest + 1} {
			if s := Put(n); len(s) != size+1 {
				t.Errorf("Put(%d) has %d bytes, want %d", n, len(s), size+1)
			}
		}
	}
	for n := -64; n <= 63; n++ {
		if s := Put(n); len(s) != 1 {
			t.Errorf("Put(%d) has %d bytes, want 1", n, len(s))
		}
	}
	for _, n := range append(intsAtEdges(), intsOfAllSizes(rand.New(rand.NewSource(4)), 10000)...) {
		if s := Put(n); len(s) < 1 || len(s) > 10 {
			t.Errorf("Put(%d) has %d bytes", n, len(s))
		}
	}
}

// R4: lists that are handed in stay what they were, and those that are handed out are memory of their own.
func TestListsAreOwn(t *testing.T) {
	list := []int{5, -6, 700}
	s := PutAll(list)
	if !slices.Equal(list, []int{5, -6, 700}) {
		t.Error("PutAll has changed its list:", list)
	}
	first, _, _ := GetAll(s, 0)
	first[0] = 9
	if s != PutAll(list) {
		t.Errorf("%q", s)
	}
	wantList(t, s, 0, list, len(s))
}

// R1: no memory is laid out for a count beyond the text, which might be more than there is.
func TestCountBeyondTextCostsNothing(t *testing.T) {
	s := markOf(1<<40) + "\x00\x00"
	if n := testing.AllocsPerRun(100, func() { GetAll(s, 0); GetText(s, 0) }); n != 0 {
		t.Error("allocations:", n)
	}
}
