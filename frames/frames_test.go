package frames

import (
	"encoding/binary"
	"hash/crc32"
	"math"
	"math/rand"
	"slices"
	"strings"
	"testing"

	"archipelago/api"
)

// markOf is an int's mark by another hand than the program's.
func markOf(n int) string {
	return string(binary.AppendVarint(nil, int64(n)))
}

// checkNumber is the check number of a text, its lowest eight bits first, by another hand than the program's.
func checkNumber(s string) string {
	sum := crc32.Checksum([]byte(s), crc32.MakeTable(crc32.Castagnoli))
	return string(binary.LittleEndian.AppendUint32(nil, sum))
}

// sealed is a mark and a payload laid as a frame is, with the check number that is right for them, be it a frame or not.
func sealed(mark, payload string) string {
	return mark + checkNumber(mark+payload) + payload
}

// frameOf is the payload's frame by the chapter's words, without the package.
func frameOf(payload string) string {
	return sealed(markOf(len(payload)), payload)
}

func framesOf(payloads []string) string {
	var b strings.Builder
	for _, p := range payloads {
		b.WriteString(frameOf(p))
	}
	return b.String()
}

// randomText is a text of that many bytes, any of the 256 at each place.
func randomText(r *rand.Rand, size int) string {
	b := make([]byte, size)
	for i := range b {
		b[i] = byte(r.Intn(256))
	}
	return string(b)
}

// sizesAtEdges are the lengths of payloads around those at which the mark has a byte more, and the greatest ones.
func sizesAtEdges() []int {
	return []int{0, 1, 2, 3, 4, 5, 62, 63, 64, 65, 127, 128, 255, 256, 4096, 8190, 8191, 8192}
}

// payloadsAtEdges are payloads of those lengths: of zeros, of ones, of any bytes, and such that are frames themselves.
func payloadsAtEdges(r *rand.Rand) []string {
	l := []string{"a", "abc", frameOf(""), frameOf("a"), frameOf(frameOf("a")), strings.Repeat(frameOf(""), 20), "\x01", "\x80", "\x80\x00"}
	for _, size := range sizesAtEdges() {
		l = append(l, strings.Repeat("\x00", size), strings.Repeat("\xff", size), randomText(r, size))
	}
	return l
}

// changed is the text with another byte at that place.
func changed(s string, place int, b byte) string {
	return s[:place] + string([]byte{b}) + s[place+1:]
}

func wantFrame(t *testing.T, payload, want string) {
	t.Helper()
	if s, err := Frame(payload); s != want || err != api.OK {
		t.Errorf("Frame of %d bytes, %.40q = %d bytes, %.40q, %d, want %d bytes, %.40q", len(payload), payload, len(s), s, err, len(want), want)
	}
}

func wantNext(t *testing.T, s string, at int, payload string, next int) {
	t.Helper()
	if p, behind, ok := Next(s, at); p != payload || behind != next || !ok {
		t.Errorf("Next of %d bytes, %.40q, at %d = %.40q %d %v, want %.40q %d true", len(s), s, at, p, behind, ok, payload, next)
	}
}

func wantNone(t *testing.T, s string, at int) {
	t.Helper()
	if p, next, ok := Next(s, at); p != "" || next != 0 || ok {
		t.Errorf("Next of %d bytes, %.40q, at %d = %.40q %d %v, want none", len(s), s, at, p, next, ok)
	}
}

func wantWhole(t *testing.T, s string, payloads []string, end int) {
	t.Helper()
	if l, behind := Whole(s); !slices.Equal(l, payloads) || behind != end {
		t.Errorf("Whole of %d bytes, %.40q = %d payloads, %.40q, %d, want %d, %.40q, %d", len(s), s, len(l), l, behind, len(payloads), payloads, end)
	}
}

// P3.1, P3.2: the chapter's examples.
func TestExamples(t *testing.T) {
	a, err := Frame("a")
	if err != api.OK || len(a) != 6 || a[0] != 2 || a[5] != 'a' {
		t.Fatalf("Frame of a = %q, %d", a, err)
	}
	wantNext(t, a, 0, "a", 6)
	wantNone(t, a, 1)
	for half := range len(a) {
		wantWhole(t, a+a+a[:half], []string{"a", "a"}, 12)
	}
	if s, err := Frame(strings.Repeat("x", 8193)); s != "" || err != api.ErrLong {
		t.Errorf("Frame of 8193 bytes = %d bytes, %d", len(s), err)
	}
	wantWhole(t, "", nil, 0)
	wantWhole(t, "\x01", nil, 0)
}

// P3.1: a frame's bytes, one by one: the mark ahead of the check number, its lowest eight bits first, and it is that of
// the body, not of the payload alone.
func TestBytesOfFrames(t *testing.T) {
	wantFrame(t, "", "\x00\x51\x53\x7d\x52")
	wantFrame(t, "a", "\x02"+checkNumber("\x02a")+"a")
	wantFrame(t, "abc", "\x06"+checkNumber("\x06abc")+"abc")
	wantFrame(t, strings.Repeat("x", 64), "\x80\x01"+checkNumber("\x80\x01"+strings.Repeat("x", 64))+strings.Repeat("x", 64))
}

// P3.1: frames are what the chapter's words say, and Next finds them.
func TestFrameByWords(t *testing.T) {
	for _, payload := range payloadsAtEdges(rand.New(rand.NewSource(1))) {
		frame := frameOf(payload)
		wantFrame(t, payload, frame)
		wantNext(t, frame, 0, payload, len(frame))
	}
}

// P3.1: the mark has a byte more from 64 bytes on, and from 8192 on.
func TestSizesOfFrames(t *testing.T) {
	for _, x := range []struct{ size, markSize int }{{0, 1}, {63, 1}, {64, 2}, {8191, 2}, {8192, 3}} {
		s, err := Frame(strings.Repeat("y", x.size))
		if len(s) != x.markSize+4+x.size || err != api.OK {
			t.Errorf("the frame of %d bytes has %d, %d", x.size, len(s), err)
		}
	}
}

// P3.1: a payload of MaxFrame bytes has a frame, one of more has none, however right its check number is.
func TestLongPayloads(t *testing.T) {
	for _, size := range []int{8193, 8194, 16384, 100000, 1 << 20} {
		payload := strings.Repeat("z", size)
		if s, err := Frame(payload); s != "" || err != api.ErrLong {
			t.Errorf("Frame of %d bytes = %d bytes, %d", size, len(s), err)
		}
		wantNone(t, frameOf(payload), 0)
		wantWhole(t, frameOf(payload)+frameOf("a"), nil, 0)
		wantWhole(t, frameOf("a")+frameOf(payload), []string{"a"}, 6)
	}
	greatest := strings.Repeat("z", 8192)
	wantFrame(t, greatest, frameOf(greatest))
	wantNext(t, frameOf(greatest), 0, greatest, 3+4+8192)
}

// P3.1: what stands ahead of the place and behind the frame changes nothing.
func TestNextAmongOthers(t *testing.T) {
	around := []string{"", "\x00", "\x01", "\x80", "\xff\xff", "abc", frameOf(""), frameOf("b"), frameOf("b")[:4]}
	for _, ahead := range around {
		for _, behind := range around {
			for _, payload := range []string{"", "a", "\x00", strings.Repeat("\xff", 64), frameOf("a")} {
				frame := frameOf(payload)
				wantNext(t, ahead+frame+behind, len(ahead), payload, len(ahead)+len(frame))
			}
		}
	}
}

// P3.1: a frame stands just where it begins.
func TestNextInsideFrames(t *testing.T) {
	payloads := []string{"a", "", "abc", strings.Repeat("q", 70)}
	s := framesOf(payloads)
	begins := map[int]string{}
	at := 0
	for _, p := range payloads {
		begins[at] = p
		at += len(frameOf(p))
	}
	for at := range len(s) + 1 {
		if p, ok := begins[at]; ok {
			wantNext(t, s, at, p, at+len(frameOf(p)))
		} else {
			wantNone(t, s, at)
		}
	}
}

// P3.1: places at which no frame can stand: below 0, at the text's end, and beyond it.
func TestPlaces(t *testing.T) {
	for _, s := range []string{"", "\x00", frameOf(""), frameOf("a"), frameOf("a") + frameOf("b")} {
		for _, at := range []int{math.MinInt, math.MinInt + 1, -len(s) - 1, -6, -2, -1, len(s), len(s) + 1, len(s) + 5, math.MaxInt - 4, math.MaxInt - 1, math.MaxInt} {
			wantNone(t, s, at)
		}
	}
}

// P3.1, P3.2: marks of lengths that no frame has: below 0, of more than MaxFrame, of more than is left.
func TestLengthsThatAreNone(t *testing.T) {
	behind := strings.Repeat("\x00", 9000)
	for _, length := range []int{-1, -2, -4, -5, -64, -65, -8192, -8193, math.MinInt, math.MinInt + 4, 8193, 8194, 1 << 31, math.MaxInt - 10, math.MaxInt - 4, math.MaxInt} {
		for _, payload := range []string{"", "abc", behind} {
			s := sealed(markOf(length), payload)
			wantNone(t, s, 0)
			wantNone(t, "x"+s, 1)
			wantWhole(t, s+frameOf("a"), nil, 0)
			wantWhole(t, frameOf("a")+s, []string{"a"}, 6)
		}
	}
	for _, length := range []int{1, 2, 5, 63, 64, 8191, 8192} {
		for _, left := range []int{0, 1, length / 2, length - 1} {
			s := sealed(markOf(length), behind[:left])
			if left < length {
				wantNone(t, s, 0)
				wantWhole(t, frameOf("a")+s, []string{"a"}, 6)
			}
		}
	}
}

// P3.1: a mark that is not the shortest is none, though the check number is right for it.
func TestMarksThatAreNotTheShortest(t *testing.T) {
	for _, x := range []struct{ mark, payload string }{
		{"\x80\x00", ""}, {"\x80\x80\x00", ""}, {"\x82\x00", "a"}, {"\x82\x80\x80\x00", "a"}, {"\x86\x00", "abc"},
		{"\x80\x81\x00", strings.Repeat("x", 64)}, {"\x80\x80\x81\x00", strings.Repeat("x", 8192)},
		{"\x80", ""}, {"\x82\x80", "a"}, {strings.Repeat("\xff", 9) + "\x02", "a"},
	} {
		s := sealed(x.mark, x.payload)
		wantNone(t, s, 0)
		wantWhole(t, s+frameOf("b"), nil, 0)
		wantWhole(t, frameOf("b")+s+frameOf("b"), []string{"b"}, 6)
	}
}

// P3.1: check numbers that are another one's: of the payload alone, with the highest bits first, turned over, none.
func TestOtherCheckNumbers(t *testing.T) {
	for _, payload := range []string{"", "a", "abc", strings.Repeat("\x00", 64)} {
		mark := markOf(len(payload))
		right := checkNumber(mark + payload)
		highestFirst := []byte(right)
		slices.Reverse(highestFirst)
		turned := []byte(right)
		for i := range turned {
			turned[i] = ^turned[i]
		}
		for _, check := range []string{checkNumber(payload), checkNumber(payload + mark), checkNumber(mark), string(highestFirst), string(turned), "\x00\x00\x00\x00", "\xff\xff\xff\xff"} {
			if check != right {
				wantNone(t, mark+check+payload, 0)
			}
		}
		wantNone(t, right+mark+payload, 0)
		if payload != "" {
			wantNone(t, mark+payload+right, 0)
		}
	}
}

// P3.2: Whole ends at the first place at which no frame stands, though some stand behind it.
func TestWholeEnds(t *testing.T) {
	two := frameOf("a") + frameOf("bc")
	for _, gap := range []string{"\x01", "\xff", "\x80\x00", "\x00", "x", frameOf("abc")[:5], frameOf("abc")[1:]} {
		wantWhole(t, gap+two, nil, 0)
		wantWhole(t, two+gap, []string{"a", "bc"}, len(two))
		wantWhole(t, two+gap+two, []string{"a", "bc"}, len(two))
	}
	wantWhole(t, frameOf(""), []string{""}, 5)
	wantWhole(t, strings.Repeat(frameOf(""), 3), []string{"", "", ""}, 15)
}

// P3.2: Whole is what Next tells, from place to place, of any bytes that have frames among them.
func TestWholeByNext(t *testing.T) {
	r := rand.New(rand.NewSource(2))
	for range 3000 {
		var b strings.Builder
		for range r.Intn(6) {
			if r.Intn(4) == 0 {
				b.WriteString(randomText(r, r.Intn(8)))
			} else {
				b.WriteString(frameOf(randomText(r, r.Intn(80))))
			}
		}
		s := b.String()
		var payloads []string
		end := 0
		for {
			payload, next, ok := Next(s, end)
			if !ok {
				break
			}
			if s[end:next] != frameOf(payload) {
				t.Fatalf("Next(%q, %d) = %q %d", s, end, payload, next)
			}
			payloads, end = append(payloads, payload), next
		}
		wantWhole(t, s, payloads, end)
	}
}

// P3.3: what was framed, one behind the other, is found, in order.
func TestFramedIsFound(t *testing.T) {
	r := rand.New(rand.NewSource(3))
	lists := [][]string{nil, {""}, {"a"}, {"", "", ""}, {"a", "", "b"}, payloadsAtEdges(r)}
	for range 200 {
		list := make([]string, r.Intn(20))
		for i := range list {
			list[i] = randomText(r, r.Intn(200))
		}
		lists = append(lists, list)
	}
	for _, list := range lists {
		s := ""
		for _, payload := range list {
			frame, err := Frame(payload)
			if err != api.OK {
				t.Fatal(err)
			}
			s += frame
		}
		wantWhole(t, s, list, len(s))
	}
}

// P3.3: of a text that is cut off anywhere just the frames that are whole are found.
func TestCutOffAnywhere(t *testing.T) {
	r := rand.New(rand.NewSource(4))
	for _, list := range [][]string{
		{""}, {"a"}, {"", "", ""}, {"a", "", "bc", frameOf("d"), strings.Repeat("\x00", 64), randomText(r, 200), ""},
		{frameOf("a") + frameOf("b"), "\x00\x00\x00\x00\x00\x00", strings.Repeat("\xff", 63)},
	} {
		s := framesOf(list)
		count, end := 0, 0
		for cut := range len(s) + 1 {
			for count < len(list) && end+len(frameOf(list[count])) <= cut {
				end += len(frameOf(list[count]))
				count++
			}
			wantWhole(t, s[:cut], list[:count], end)
			wantNone(t, s[:cut], end)
		}
	}
}

// P3.3: a frame of the greatest payload that is cut off, at places all through it.
func TestGreatestFrameCutOff(t *testing.T) {
	frame := frameOf(randomText(rand.New(rand.NewSource(5)), 8192))
	for cut := 0; cut < len(frame); cut += 1 + cut/50 {
		wantWhole(t, frameOf("a")+frame[:cut], []string{"a"}, 6)
	}
	wantWhole(t, frameOf("a")+frame[:len(frame)-1], []string{"a"}, 6)
}

// P3.3: that a frame which is cut off is none hangs on no check number: not even one that is right for the bytes that
// are left makes it a frame.
func TestCutOffWithRightCheckNumber(t *testing.T) {
	r := rand.New(rand.NewSource(6))
	for _, length := range []int{1, 2, 10, 63, 64, 65, 300, 8192} {
		payload := randomText(r, length)
		for left := 0; left < length; left += 1 + length/70 {
			mark := markOf(length)
			wantNone(t, mark+checkNumber(mark+payload[:left])+payload[:left], 0)
			wantNone(t, mark+checkNumber(payload[:left])+payload[:left], 0)
			wantNone(t, mark+frameOf(payload[:left])[len(markOf(left)):], 0)
			wantNone(t, mark+randomText(r, 4+left), 0)
		}
		for left := range 4 {
			wantNone(t, markOf(length)+randomText(r, left), 0)
			wantNone(t, markOf(0)+randomText(r, left), 0)
		}
	}
}

// P3.3: a byte of the payload, or of the check number, that is another one: neither that frame is found nor what stands
// behind it; those ahead are.
func TestOtherBytes(t *testing.T) {
	r := rand.New(rand.NewSource(7))
	ahead, behind := frameOf("ahead")+frameOf(""), frameOf("b")+frameOf("")+frameOf("behind")
	for _, payload := range []string{"", "a", "abc", "\x00\x00", "\xff", frameOf("a") + frameOf("b"), strings.Repeat("\x00", 64)} {
		frame := frameOf(payload)
		for place := len(markOf(len(payload))); place < len(frame); place++ {
			for b := range 256 {
				if byte(b) == frame[place] {
					continue
				}
				other := changed(frame, place, byte(b))
				wantNone(t, other, 0)
				wantWhole(t, other+behind, nil, 0)
				wantWhole(t, ahead+other+behind, []string{"ahead", ""}, len(ahead))
			}
		}
	}
	long := frameOf(randomText(r, 8192))
	for place := 3; place < len(long); place += 97 {
		other := changed(long, place, long[place]^byte(1+r.Intn(255)))
		wantNone(t, other, 0)
		wantWhole(t, ahead+other+behind, []string{"ahead", ""}, len(ahead))
	}
}

// R2, R4: a list that was handed out is memory of its own: what is done to it changes no later answer.
func TestListsAreOwn(t *testing.T) {
	s := frameOf("a") + frameOf("b")
	first, _ := Whole(s)
	first[0] = "other"
	_ = append(first[:1], "more")
	wantWhole(t, s, []string{"a", "b"}, 12)
}

// R1: a text of very many frames, and one of very many bytes without a frame, are gone through once.
func TestManyFrames(t *testing.T) {
	s := strings.Repeat(frameOf(""), 200000)
	if l, end := Whole(s); len(l) != 200000 || end != len(s) {
		t.Errorf("%d payloads, %d", len(l), end)
	}
	wantWhole(t, strings.Repeat("\x80", 1<<20), nil, 0)
	wantWhole(t, strings.Repeat("\x02", 1<<20), nil, 0)
}
