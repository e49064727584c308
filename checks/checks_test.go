package checks

import (
	"hash/crc32"
	"math/bits"
	"math/rand"
	"strings"
	"testing"
)

const allOnes = 1<<32 - 1

// numberOf is More by the chapter's words alone: a register of 32 bits that stand one by one, the lowest one first,
// without shifts, and without the package.
func numberOf(sum uint32, s string) uint32 {
	const feedback = "00011110110111000110111101000001" // 82F63B78, from the lowest bit on
	register := make([]byte, 32)
	for i := range register {
		register[i] = '1' - byte(sum%2)
		sum /= 2
	}
	against := func(i int, bit byte) {
		if register[i] == bit {
			register[i] = '0'
		} else {
			register[i] = '1'
		}
	}
	for _, b := range []byte(s) {
		for i := range 8 {
			against(i, '0'+b%2)
			b /= 2
		}
		for range 8 {
			fell := register[0]
			register = append(register[1:], '0')
			for i := 0; fell == '1' && i < 32; i++ {
				against(i, feedback[i])
			}
		}
	}
	number := uint32(0)
	for i := 31; i >= 0; i-- {
		number = number*2 + uint32('1'-register[i])
	}
	return number
}

// randomText is a text of that many bytes, any of the 256 at each place.
func randomText(r *rand.Rand, size int) string {
	b := make([]byte, size)
	for i := range b {
		b[i] = byte(r.Intn(256))
	}
	return string(b)
}

// numbersAtEdges are 0, that of 32 ones, and those with few ones or few zeros.
func numbersAtEdges() []uint32 {
	l := []uint32{0, allOnes, 0x82F63B78, 0xFF, 0xFFFFFF00, 0xFF000000, 0xAAAAAAAA, 0x55555555}
	for i := range 32 {
		l = append(l, 1<<i, ^uint32(1<<i))
	}
	return l
}

// textsAtEdges are the empty text, all of one byte, and texts of bytes 0 and 255.
func textsAtEdges() []string {
	l := []string{"", "123456789", "\x00\xff", "\xff\x00", "a\x00", "\x00a"}
	for b := range 256 {
		l = append(l, string([]byte{byte(b)}))
	}
	for _, size := range []int{2, 3, 4, 5, 31, 32, 33, 1000} {
		l = append(l, strings.Repeat("\x00", size), strings.Repeat("\xff", size))
	}
	return l
}

// turnOver is the text with the bits of the pattern turned over, the pattern's lowest one at that place: places go
// through the text's bits, each byte's from the lowest one on.
func turnOver(s string, place int, pattern uint64) string {
	b := []byte(s)
	for i := range 64 {
		if pattern>>i&1 == 1 {
			b[(place+i)/8] ^= 1 << ((place + i) % 8)
		}
	}
	return string(b)
}

// rank tells how many of the numbers are such that none comes from those ahead, put against each other. Where all 32
// are, no choice of them, put against each other, comes to 0.
func rank(numbers []uint32) int {
	var byTop [33]uint32
	count := 0
	for _, n := range numbers {
		for n != 0 && byTop[bits.Len32(n)] != 0 {
			n ^= byTop[bits.Len32(n)]
		}
		if n != 0 {
			byTop[bits.Len32(n)] = n
			count++
		}
	}
	return count
}

func wantSum(t *testing.T, s string, want uint32) {
	t.Helper()
	if n := Sum(s); n != want {
		t.Errorf("Sum of %d bytes, %.40q = %08x, want %08x", len(s), s, n, want)
	}
}

func wantMore(t *testing.T, sum uint32, s string, want uint32) {
	t.Helper()
	if n := More(sum, s); n != want {
		t.Errorf("More(%08x, %d bytes, %.40q) = %08x, want %08x", sum, len(s), s, n, want)
	}
}

func wantLess(t *testing.T, sum uint32, s string, want uint32) {
	t.Helper()
	if n := Less(sum, s); n != want {
		t.Errorf("Less(%08x, %d bytes, %.40q) = %08x, want %08x", sum, len(s), s, n, want)
	}
}

// P2.1, P2.2: the chapter's examples, and numbers that are known of CRC-32C elsewhere.
func TestExamples(t *testing.T) {
	wantSum(t, "123456789", 0xe3069283)
	wantSum(t, "", 0)
	wantSum(t, "a", 0xc1d04330)
	wantMore(t, Sum("1234"), "56789", 0xe3069283)
	wantLess(t, 0xe3069283, "56789", Sum("1234"))
	wantLess(t, 0xe3069283, "123456789", 0)
	wantLess(t, 0xc1d04330, "a", 0)
	up := make([]byte, 32)
	down := make([]byte, 32)
	for i := range 32 {
		up[i], down[i] = byte(i), byte(31-i)
	}
	wantSum(t, strings.Repeat("\x00", 32), 0x8a9136aa)
	wantSum(t, strings.Repeat("\xff", 32), 0x62a8ab43)
	wantSum(t, string(up), 0x46dd794e)
	wantSum(t, string(down), 0x113fdb5c)
}

// P2.1: Sum and More are what the chapter's words say.
func TestByWords(t *testing.T) {
	r := rand.New(rand.NewSource(1))
	texts := textsAtEdges()
	for size := range 60 {
		texts = append(texts, randomText(r, size))
	}
	numbers := append(numbersAtEdges(), r.Uint32(), r.Uint32())
	for _, s := range texts {
		wantSum(t, s, numberOf(0, s))
		if len(s) > 60 {
			wantMore(t, allOnes, s, numberOf(allOnes, s))
			continue
		}
		for _, n := range numbers {
			wantMore(t, n, s, numberOf(n, s))
		}
	}
}

// P2.1: Sum and More of texts of some thousand bytes are those of another CRC-32C.
func TestLongTexts(t *testing.T) {
	r := rand.New(rand.NewSource(2))
	table := crc32.MakeTable(crc32.Castagnoli)
	for _, size := range []int{999, 1000, 4095, 4096, 4097, 8192, 16384, 100000} {
		for _, s := range []string{randomText(r, size), strings.Repeat("\x00", size), strings.Repeat("\xff", size)} {
			wantSum(t, s, crc32.Checksum([]byte(s), table))
			for _, n := range []uint32{0, allOnes, r.Uint32()} {
				wantMore(t, n, s, crc32.Update(n, table, []byte(s)))
				wantLess(t, crc32.Update(n, table, []byte(s)), s, n)
			}
		}
	}
}

// P2.1, P2.2: by nothing no number changes.
func TestEmptyText(t *testing.T) {
	for _, n := range numbersAtEdges() {
		wantMore(t, n, "", n)
		wantLess(t, n, "", n)
	}
}

// P2.2: of what Less tells, More tells the number again, and the other way round; so it is the only one.
func TestLessIsTheOneNumber(t *testing.T) {
	r := rand.New(rand.NewSource(3))
	texts := textsAtEdges()
	for range 200 {
		texts = append(texts, randomText(r, r.Intn(100)))
	}
	for _, s := range append(texts, randomText(r, 5000)) {
		for _, n := range append(numbersAtEdges(), r.Uint32()) {
			wantMore(t, Less(n, s), s, n)
			wantLess(t, More(n, s), s, n)
		}
		wantLess(t, Sum(s), s, 0)
	}
}

// P2.2: Less is what the chapter's words say, not only what takes back the package's own More.
func TestLessByWords(t *testing.T) {
	r := rand.New(rand.NewSource(4))
	for range 500 {
		s := randomText(r, r.Intn(20))
		for _, n := range []uint32{0, allOnes, r.Uint32()} {
			wantLess(t, numberOf(n, s), s, n)
		}
	}
}

// P2.3: More of Sum is Sum of both texts, wherever they are parted, and Less takes it back.
func TestTextsBehindEachOther(t *testing.T) {
	r := rand.New(rand.NewSource(5))
	for _, s := range []string{"", "a", "123456789", strings.Repeat("\x00", 70), strings.Repeat("\xff", 70), randomText(r, 300), randomText(r, 3000)} {
		whole := Sum(s)
		for cut := 0; cut <= len(s); cut += 1 + len(s)/400 {
			ahead := Sum(s[:cut])
			wantMore(t, ahead, s[cut:], whole)
			wantLess(t, whole, s[cut:], ahead)
			middle := cut + (len(s)-cut)/2
			wantMore(t, More(ahead, s[cut:middle]), s[middle:], whole)
			wantLess(t, Less(whole, s[middle:]), s[cut:middle], ahead)
		}
	}
}

// P2.3: unlike numbers stay unlike by More with the same text, and by Less too.
func TestUnlikeNumbersStayUnlike(t *testing.T) {
	r := rand.New(rand.NewSource(6))
	for _, s := range append(textsAtEdges(), randomText(r, 7), randomText(r, 4000)) {
		more := map[uint32]uint32{}
		less := map[uint32]uint32{}
		for _, n := range append(numbersAtEdges(), r.Uint32(), r.Uint32(), r.Uint32()) {
			if m, ok := more[More(n, s)]; ok && m != n {
				t.Fatalf("More of %08x and of %08x with %.40q are the same", m, n, s)
			}
			if m, ok := less[Less(n, s)]; ok && m != n {
				t.Fatalf("Less of %08x and of %08x with %.40q are the same", m, n, s)
			}
			more[More(n, s)], less[Less(n, s)] = n, n
		}
		apart := make([]uint32, 32)
		for i := range apart {
			apart[i] = More(1<<i, s) ^ More(0, s)
		}
		if rank(apart) != 32 {
			t.Fatalf("some numbers are the same by More with %.40q", s)
		}
	}
}

// P2.3: bits that are turned over within 32 side by side turn the check number, wherever they begin, all those that
// there are: what each bit alone turns over of the check number does not come from the others.
func TestWithin32Bits(t *testing.T) {
	r := rand.New(rand.NewSource(7))
	for _, s := range []string{strings.Repeat("\x00", 12), strings.Repeat("\xff", 12), randomText(r, 4), randomText(r, 5), randomText(r, 30), randomText(r, 3000)} {
		whole := Sum(s)
		last := len(s)*8 - 32
		for place := 0; place <= last; place += 1 + last/99 {
			apart := make([]uint32, 32)
			for i := range apart {
				apart[i] = Sum(turnOver(s, place+i, 1)) ^ whole
			}
			if rank(apart) != 32 {
				t.Fatalf("some bits from %d on of %.40q may be turned over unseen", place, s)
			}
			pattern := r.Uint32() | 1
			all := uint32(0)
			for i := range apart {
				all ^= apart[i] & -(pattern >> i & 1)
			}
			wantSum(t, turnOver(s, place, uint64(pattern)), whole^all)
		}
	}
}

// P2.3: the same by many patterns, those with both ends turned over among them: begun inside a byte they reach over
// five bytes.
func TestManyPatterns(t *testing.T) {
	r := rand.New(rand.NewSource(8))
	for range 20000 {
		s := randomText(r, 5+r.Intn(40))
		whole := Sum(s)
		place := r.Intn(len(s)*8 - 31)
		for _, pattern := range []uint32{1, 1 << 31, 1<<31 | 1, allOnes, 0x82F63B78, 0x05EC76F1, r.Uint32() | 1, r.Uint32() | 1<<31 | 1} {
			if turned := turnOver(s, place, uint64(pattern)); Sum(turned) == whole {
				t.Fatalf("%q and %q have one check number", s, turned)
			}
		}
	}
	for place := 1; place < 8; place++ {
		s := "\x00\xffabc"
		turned := turnOver(s, place, 1<<31|1)
		if turned[0] == s[0] || turned[4] == s[4] || Sum(turned) == Sum(s) {
			t.Errorf("%q and %q", s, turned)
		}
	}
}

// P2.3: within 33 bits there is one pattern that is not seen, so 32 is all that can be promised.
func TestBeyond32Bits(t *testing.T) {
	s := "some text of more than five bytes"
	for place := range len(s)*8 - 32 {
		turned := turnOver(s, place, 0x82F63B78<<1|1)
		if turned == s {
			t.Fatal("nothing was turned over")
		}
		wantSum(t, turned, Sum(s))
	}
}
