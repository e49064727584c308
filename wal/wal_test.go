package wal

import (
	"encoding/binary"
	"fmt"
	"hash/crc32"
	"slices"
	"strings"
	"testing"

	"archipelago/api"
	"archipelago/disk"
)

const roomy = 1 << 20 // a capacity at which nothing is full

// frameOf is the payload's frame by the words of chapter 3, without the package.
func frameOf(payload string) string {
	mark := string(binary.AppendVarint(nil, int64(len(payload))))
	sum := crc32.Checksum([]byte(mark+payload), crc32.MakeTable(crc32.Castagnoli))
	return mark + string(binary.LittleEndian.AppendUint32(nil, sum)) + payload
}

func framesOf(payloads ...string) string {
	var b strings.Builder
	for _, p := range payloads {
		b.WriteString(frameOf(p))
	}
	return b.String()
}

// listTo are payloads whose frames have that many bytes together: more than 69, as no list ends at just that many.
func listTo(bytes int) []string {
	var l []string
	for ; bytes > 8100; bytes -= 4006 {
		l = append(l, strings.Repeat("g", 4000))
	}
	for _, mark := range []int{1, 2} {
		p := strings.Repeat("f", max(0, bytes-4-mark))
		if len(frameOf(p)) == bytes {
			return append(l, p)
		}
	}
	panic("no payload has such a frame")
}

// laid is a file as a test lays it, all of it synced.
type laid struct{ name, bytes string }

// with is a disk with these files.
func with(t *testing.T, capacity int, files ...laid) *disk.Disk {
	t.Helper()
	d, err := disk.New(capacity)
	must(t, err)
	for _, f := range files {
		must(t, d.Append(f.name, f.bytes))
		must(t, d.Sync(f.name))
	}
	return d
}

// row are n segments s1, s2 and so on, each with its number as the only payload.
func row(n int) (files []laid, payloads []string) {
	for i := range n {
		p := fmt.Sprint(i + 1)
		files = append(files, laid{"s" + p, frameOf(p)})
		payloads = append(payloads, p)
	}
	return files, payloads
}

func must(t *testing.T, err api.Errno) {
	t.Helper()
	wantErr(t, err, api.OK)
}

func wantErr(t *testing.T, err, want api.Errno) {
	t.Helper()
	if err != want {
		t.Errorf("error %d, want %d", err, want)
	}
}

// wantOpen opens the disk's log, and wants these payloads.
func wantOpen(t *testing.T, d *disk.Disk, want ...string) *Wal {
	t.Helper()
	w, payloads, err := Open(d)
	if w == nil || err != api.OK || !slices.Equal(payloads, want) {
		t.Fatalf("Open = %v, %.60q, %d, want %.60q", w, payloads, err, want)
	}
	return w
}

func wantNoOpen(t *testing.T, d *disk.Disk, want api.Errno) {
	t.Helper()
	before := image(d)
	if w, payloads, err := Open(d); w != nil || payloads != nil || err != want {
		t.Errorf("Open of %q = %v, %.60q, %d, want error %d", d.Names(), w, payloads, err, want)
	}
	if after := image(d); after != before {
		t.Errorf("Open changed with error %d:\n%.300q\nwant\n%.300q", want, after, before)
	}
}

func wantNames(t *testing.T, d *disk.Disk, want ...string) {
	t.Helper()
	if l := d.Names(); !slices.Equal(l, want) {
		t.Errorf("Names = %q, want %q", l, want)
	}
}

func wantBytes(t *testing.T, d *disk.Disk, name, want string) {
	t.Helper()
	if s, err := d.Read(name); s != want || err != api.OK {
		t.Errorf("Read(%q) = %d bytes, %.60q, %d, want %d bytes, %.60q", name, len(s), s, err, len(want), want)
	}
}

func wantUnsynced(t *testing.T, d *disk.Disk, want ...int) {
	t.Helper()
	if l := d.Unsynced(); !slices.Equal(l, want) {
		t.Errorf("Unsynced = %v, want %v", l, want)
	}
}

func wantTold(t *testing.T, w *Wal, segments, size int) {
	t.Helper()
	if n := w.Segments(); n != segments {
		t.Errorf("Segments = %d, want %d", n, segments)
	}
	if n := w.Size(); n != size {
		t.Errorf("Size = %d, want %d", n, size)
	}
}

// image is all that a disk tells; the bytes only where it is up.
func image(d *disk.Disk) string {
	var b strings.Builder
	fmt.Fprintln(&b, d.Up(), d.Starts(), d.Size(), d.Unsynced())
	for _, name := range d.Names() {
		s, err := d.Read(name)
		fmt.Fprintf(&b, "%q %d %d:", name, err, len(s))
		b.WriteString(s) // not told by %q, as most of the tests' time would go there
		b.WriteByte('\n')
	}
	return b.String()
}

// wantSame does what is handed in, and wants its error, and all that the disk tells to be what it was.
func wantSame(t *testing.T, d *disk.Disk, want api.Errno, do func() api.Errno) {
	t.Helper()
	before := image(d)
	wantErr(t, do(), want)
	if after := image(d); after != before {
		t.Errorf("changed with error %d:\n%.300q\nwant\n%.300q", want, after, before)
	}
}

// wantChanges wants what is handed in to make that many changes of the disk: one failure ahead of the next one is not
// met, and it is met by the next one.
func wantChanges(t *testing.T, d *disk.Disk, n int, do func() api.Errno) {
	t.Helper()
	must(t, d.Fail(n, nil))
	must(t, do())
	if err := d.Sync(d.Names()[0]); err != api.ErrDown {
		t.Errorf("less than %d changes", n)
	}
}

// P5.1 to P5.4: the chapter's examples.
func TestExamples(t *testing.T) {
	d := with(t, 50000)
	w := wantOpen(t, d)
	must(t, w.Append([]string{"a", "b"}))
	must(t, w.Sync())
	must(t, w.Append([]string{"c"}))
	must(t, d.Crash([]int{3}))
	must(t, d.Start())
	wantErr(t, w.Append([]string{"d"}), api.ErrDown)
	w = wantOpen(t, d, "a", "b")
	long := strings.Repeat("x", 8192)
	must(t, w.Append([]string{long, long}))
	must(t, w.Append([]string{"e"}))
	wantNames(t, d, "s1", "s2")
	wantTold(t, w, 2, 12+2*8199+6)
	must(t, w.Checkpoint([]string{"x"}))
	wantNames(t, d, "c3")
	must(t, w.Append([]string{"y"}))
	wantNames(t, d, "c3", "s4")
	wantTold(t, w, 2, 12)
	wantOpen(t, d, "x", "y")
	wantNoOpen(t, with(t, 100, laid{"q", ""}), api.ErrBroke)
	wantNoOpen(t, with(t, 100, laid{"s1", frameOf("a")}, laid{"s3", frameOf("b")}), api.ErrBroke)
	wantNoOpen(t, with(t, 100, laid{"c2", frameOf("a")[:5]}), api.ErrBroke)
}

// P5.1: a disk without files has a log without payloads and segments, and opening it changes nothing.
func TestEmptyDisk(t *testing.T) {
	d := with(t, 1)
	wantSame(t, d, api.OK, func() api.Errno {
		wantTold(t, wantOpen(t, d), 0, 0)
		return api.OK
	})
}

// P5.1: names that are nearly those of a log's files; beside a whole log, too, and nothing is changed.
func TestNamesThatAreNone(t *testing.T) {
	for _, name := range []string{
		"c", "s", "c0", "s0", "c00", "s00", "c01", "s01", "s001", "c1000000000", "s1000000000", "c1234567890", "s9999999999",
		"s99999999999999", "c123456789012345", "s-1", "s+1", "c+2", "c-2", "s 1", "s1 ", " s1", "s1x", "sx1", "s1.0", "s1_0",
		"s0x1", "c1e3", "s\x00", "s1\x00", "s\xb2", "s²", "s١", "S1", "C1", "T", "t ", "t1", "t0", "tt", "tc1", "ts1",
		"ss1", "cs1", "a", "q", "1", "12", "r1", "d1", "b2", "u1", "\x00", "\xff",
	} {
		wantNoOpen(t, with(t, 1000, laid{name, ""}), api.ErrBroke)
		wantNoOpen(t, with(t, 1000, laid{name, frameOf("a")}), api.ErrBroke)
		log := []laid{{"c2", frameOf("a")}, {"s3", frameOf("b")}, {"c1", ""}, {"t", "?"}}
		wantNoOpen(t, with(t, 1000, append(log, laid{name, frameOf("c")})...), api.ErrBroke)
	}
}

// P5.1: names of a log's files, up to those with nine digits.
func TestNamesThatAreSome(t *testing.T) {
	for _, name := range []string{"c1", "c2", "c9", "c10", "c99", "c100", "c123456789", "c999999999", "s1"} {
		w := wantOpen(t, with(t, 100, laid{name, framesOf("a", "b")}), "a", "b")
		wantTold(t, w, 1, 12)
	}
	d := with(t, 100, laid{"t", "?"})
	wantTold(t, wantOpen(t, d), 0, 0)
	wantNames(t, d)
	d = with(t, 100, laid{"c999999998", frameOf("a")}, laid{"s999999999", frameOf("b")})
	wantTold(t, wantOpen(t, d, "a", "b"), 2, 12)
}

// P5.1: stale files of each kind are removed, and nothing else is, whatever they have; those of a log's files that are
// in use stay as they were.
func TestStaleFiles(t *testing.T) {
	c, s := laid{"c20", framesOf("a", "b")}, laid{"s21", frameOf("c")}
	for _, name := range []string{"t", "c1", "c3", "c9", "c10", "c19", "s1", "s2", "s5", "s19", "s20"} {
		for _, bytes := range []string{"", "?", frameOf("z"), frameOf("z")[:4], framesOf("z", "z") + "\x01"} {
			d := with(t, 1000, c, s, laid{name, bytes})
			wantTold(t, wantOpen(t, d, "a", "b", "c"), 2, 18)
			wantNames(t, d, "c20", "s21")
			wantBytes(t, d, "c20", c.bytes)
			wantBytes(t, d, "s21", s.bytes)
		}
	}
	d := with(t, 1000, c, laid{"t", "?"}, laid{"c3", "?"}, laid{"s1", "?"}, laid{"s20", "?"}, laid{"s7", frameOf("q")})
	wantTold(t, wantOpen(t, d, "a", "b"), 1, 12)
	wantNames(t, d, "c20")
}

// P5.1: stale files are removed by names, byte by byte, each by one change, and the last segment is cut behind that; up
// to the change by which the disk fails.
func TestOrderOfMending(t *testing.T) {
	order := []string{"c1", "c10", "c11", "c2", "s1", "s10", "s12", "s2", "s9", "t"}
	whole, torn := frameOf("b"), frameOf("b")+"\x02"
	for n := range len(order) + 2 {
		d := with(t, 1000, laid{"c12", frameOf("a")}, laid{"s13", torn})
		for _, name := range order {
			must(t, d.Append(name, "?"))
		}
		must(t, d.Fail(n, nil))
		w, payloads, err := Open(d)
		if n <= len(order) {
			if w != nil || payloads != nil || err != api.ErrDown {
				t.Fatalf("Open with %d changes = %v, %q, %d, want ErrDown", n, w, payloads, err)
			}
			must(t, d.Start())
		} else if w == nil || !slices.Equal(payloads, []string{"a", "b"}) || err != api.OK {
			t.Fatalf("Open with all changes = %v, %q, %d", w, payloads, err)
		}
		left := append([]string{"c12", "s13"}, order[min(n, len(order)):]...)
		slices.Sort(left)
		wantNames(t, d, left...)
		wantBytes(t, d, "c12", frameOf("a"))
		if n <= len(order) {
			wantBytes(t, d, "s13", torn)
		} else {
			wantBytes(t, d, "s13", whole)
		}
		wantOpen(t, d, "a", "b")
	}
}

// P5.1: opening a log that needs no mending makes no change.
func TestOpenWithoutChanges(t *testing.T) {
	d := with(t, 1000, laid{"c2", frameOf("a")}, laid{"s3", frameOf("b")}, laid{"s4", ""})
	must(t, d.Fail(0, nil))
	wantSame(t, d, api.OK, func() api.Errno {
		wantOpen(t, d, "a", "b")
		return api.OK
	})
	wantErr(t, d.Sync("c2"), api.ErrDown)
}

// P5.1: the base is the greatest number of a c file, as a number; segments are in order of their numbers.
func TestBase(t *testing.T) {
	d := with(t, 1000, laid{"c9", frameOf("old")}, laid{"c10", frameOf("a")}, laid{"c1", frameOf("older")}, laid{"s10", "?"})
	wantTold(t, wantOpen(t, d, "a"), 1, 6)
	wantNames(t, d, "c10")
	files, payloads := row(12)
	wantTold(t, wantOpen(t, with(t, 1000, files...), payloads...), 12, 9*6+3*7)
	d = with(t, 1000, laid{"c8", frameOf("a")}, laid{"s9", frameOf("b")}, laid{"s10", frameOf("c")}, laid{"s11", frameOf("d")})
	wantTold(t, wantOpen(t, d, "a", "b", "c", "d"), 4, 24)
}

// P5.1: an s file behind a gap is no log's, just above the base and further on; one below the base is stale, gap or not.
func TestGaps(t *testing.T) {
	named := func(names ...string) *disk.Disk {
		var files []laid
		for _, name := range names {
			files = append(files, laid{name, frameOf(name)})
		}
		return with(t, 1000, files...)
	}
	for _, names := range [][]string{
		{"s2"}, {"s1", "s3"}, {"s1", "s2", "s4"}, {"s9", "s10"}, {"s999999999"}, {"s1", "s2", "s3", "s10"},
		{"c1", "s3"}, {"c2", "s4"}, {"c2", "s2", "s4"}, {"c2", "s3", "s5"}, {"c1", "s1", "s3"}, {"c1", "c3", "s2", "s5"},
		{"c9", "s11"}, {"c9", "s10", "s12"}, {"c1", "s2", "s999999999"}, {"t", "s2"},
	} {
		wantNoOpen(t, named(names...), api.ErrBroke)
	}
	wantOpen(t, named("c5", "s1", "s3"), "c5")
	wantOpen(t, named("c5", "s2", "s4", "s6", "s7"), "c5", "s6", "s7")
	wantOpen(t, named("c5", "s5", "s6"), "c5", "s6")
	wantOpen(t, named("c1", "c5", "s2", "s6"), "c5", "s6")
}

// P5.1: a segment ahead of the last one that is cut is no log's; nor is one whose bytes are no frames.
func TestTornAheadOfLast(t *testing.T) {
	text := framesOf("a", "", "bcd")
	ends := []int{0, 6, 11, 19}
	for cut := range len(text) + 1 {
		for _, files := range [][]laid{
			{{"s1", text[:cut]}, {"s2", frameOf("z")}},
			{{"s1", text[:cut]}, {"s2", ""}},
			{{"s1", frameOf("z")}, {"s2", text[:cut]}, {"s3", frameOf("z")}},
			{{"c7", text[:cut]}, {"s8", frameOf("z")}},
			{{"c7", text[:cut]}},
			{{"c7", frameOf("z")}, {"s8", text[:cut]}, {"s9", "?"}},
		} {
			d := with(t, 1000, files...)
			if !slices.Contains(ends, cut) {
				wantNoOpen(t, d, api.ErrBroke)
			} else if _, _, err := Open(d); err != api.OK {
				t.Errorf("Open of %q, of which %d bytes are left = %d", d.Names(), cut, err)
			}
		}
	}
	for _, bytes := range []string{"?", "\x01", frameOf("a") + "?", "?" + frameOf("a"), frameOf("a")[:5] + "b"} {
		wantNoOpen(t, with(t, 100, laid{"c7", bytes}), api.ErrBroke)
		wantNoOpen(t, with(t, 100, laid{"c7", bytes}, laid{"s8", ""}), api.ErrBroke)
		wantNoOpen(t, with(t, 100, laid{"s1", bytes}, laid{"s2", ""}), api.ErrBroke)
		wantNoOpen(t, with(t, 100, laid{"s1", ""}, laid{"s2", bytes}, laid{"s3", ""}), api.ErrBroke)
	}
}

// P5.1: the last segment is cut behind its frames, wherever it was torn, by one change; it may be left with no bytes.
func TestTornLast(t *testing.T) {
	list := []string{"a", "", "bcd", strings.Repeat("x", 300)}
	text := framesOf(list...)
	for cut := range len(text) + 1 {
		whole, end := 0, 0
		for whole < len(list) && end+len(frameOf(list[whole])) <= cut {
			end += len(frameOf(list[whole]))
			whole++
		}
		d := with(t, 1000, laid{"s1", text[:cut]})
		wantTold(t, wantOpen(t, d, list[:whole]...), 1, end)
		wantBytes(t, d, "s1", text[:end])
		d = with(t, 1000, laid{"c3", frameOf("q")}, laid{"s4", frameOf("r")}, laid{"s5", text[:cut]})
		wantTold(t, wantOpen(t, d, append([]string{"q", "r"}, list[:whole]...)...), 3, 12+end)
		wantBytes(t, d, "s5", text[:end])
	}
}

// P5.1: bytes that are no frames, and whatever stands behind them, are cut off the last segment.
func TestLastIsNoFrames(t *testing.T) {
	for _, bytes := range []string{"?", "\x01", "\x00", "\x80", frameOf("a")[:5] + "b", "?" + frameOf("a"), "\x02\x00\x00\x00\x00a" + frameOf("b")} {
		d := with(t, 100, laid{"s1", bytes})
		wantTold(t, wantOpen(t, d), 1, 0)
		wantBytes(t, d, "s1", "")
		d = with(t, 100, laid{"s1", frameOf("z") + bytes})
		w := wantOpen(t, d, "z")
		wantBytes(t, d, "s1", frameOf("z"))
		must(t, w.Append([]string{"y"}))
		wantOpen(t, d, "z", "y")
	}
}

// P5.2: payloads, several or one, empty or not, stand in the log in order, as frames one behind the other.
func TestAppend(t *testing.T) {
	d := with(t, roomy)
	w := wantOpen(t, d)
	all := []string{}
	for _, l := range [][]string{{"a"}, {""}, {"b", "c"}, {"", "", ""}, {"", "d", ""}, {frameOf("e"), "\x00\xff\x80"}, {strings.Repeat("x", 8192)}} {
		must(t, w.Append(l))
		all = append(all, l...)
		wantBytes(t, d, "s1", framesOf(all...))
		wantNames(t, d, "s1")
		wantTold(t, w, 1, len(framesOf(all...)))
		wantOpen(t, d, all...)
	}
}

// P5.2: an append of no payloads does nothing: no file comes, and no change is made, whatever the last segment has.
func TestAppendOfNothing(t *testing.T) {
	for _, files := range [][]laid{nil, {{"s1", framesOf(listTo(16384)...)}}, {{"c999999999", ""}}} {
		d := with(t, roomy, files...)
		w, _, err := Open(d)
		must(t, err)
		must(t, d.Fail(0, nil))
		wantSame(t, d, api.OK, func() api.Errno { return w.Append(nil) })
		wantSame(t, d, api.OK, func() api.Errno { return w.Append([]string{}) })
	}
}

// P5.2: the payloads are appended by one change, and not synced.
func TestAppendIsOneChange(t *testing.T) {
	d := with(t, roomy)
	w := wantOpen(t, d)
	wantChanges(t, d, 1, func() api.Errno { return w.Append([]string{"a", "", "b", "c"}) })
	must(t, d.Start())
	w = wantOpen(t, d)
	must(t, w.Append([]string{"a", "b"}))
	wantUnsynced(t, d, 12)
	wantChanges(t, d, 1, func() api.Errno { return w.Append([]string{"a", "", "b", "c"}) })
	for keep := range 30 {
		d := with(t, roomy, laid{"s1", frameOf("z")})
		w := wantOpen(t, d, "z")
		must(t, d.Fail(0, []int{keep}))
		wantErr(t, w.Append([]string{"a", "", "b"}), api.ErrDown)
		must(t, d.Start())
		wantBytes(t, d, "s1", frameOf("z")+framesOf("a", "", "b")[:min(keep, 17)])
	}
}

// P5.2, P5.4: a payload has at most MaxFrame bytes; with one of more nothing is appended.
func TestLongPayloads(t *testing.T) {
	most, more := strings.Repeat("m", api.MaxFrame), strings.Repeat("m", api.MaxFrame+1)
	d := with(t, roomy)
	w := wantOpen(t, d)
	for _, l := range [][]string{{more}, {"a", more}, {more, "a"}, {"a", more, "b"}, {most, most, more}, {strings.Repeat("m", 100000)}} {
		wantSame(t, d, api.ErrLong, func() api.Errno { return w.Append(l) })
		wantSame(t, d, api.ErrLong, func() api.Errno { return w.Checkpoint(l) })
	}
	must(t, w.Append([]string{most, "a"}))
	wantOpen(t, d, most, "a")
	must(t, w.Checkpoint([]string{"b", most}))
	wantOpen(t, d, "b", most)
}

// P5.2: at a last segment of Segment bytes or more a new one comes, and the last one is synced ahead of that; one byte
// less, and all goes on as it was.
func TestSegments(t *testing.T) {
	for _, size := range []int{1 << 14, 1<<14 + 1, 1<<14 + 9, 30000} {
		d := with(t, roomy)
		w := wantOpen(t, d)
		l := listTo(size)
		must(t, w.Append(l))
		wantUnsynced(t, d, size)
		must(t, w.Append([]string{"a"}))
		wantNames(t, d, "s1", "s2")
		wantUnsynced(t, d, 0, 6)
		wantBytes(t, d, "s2", frameOf("a"))
		wantTold(t, w, 2, size+6)
		must(t, w.Append([]string{"b"}))
		wantNames(t, d, "s1", "s2")
		wantUnsynced(t, d, 0, 12)
		wantOpen(t, d, append(l, "a", "b")...)
	}
	d := with(t, roomy)
	w := wantOpen(t, d)
	l := listTo(1<<14 - 1)
	must(t, w.Append(l))
	must(t, w.Append([]string{"a"}))
	wantNames(t, d, "s1")
	wantUnsynced(t, d, 1<<14+5)
	must(t, w.Append([]string{"b"}))
	wantNames(t, d, "s1", "s2")
	wantUnsynced(t, d, 0, 6)
	wantOpen(t, d, append(l, "a", "b")...)
}

// P5.2: a segment may have far more than Segment bytes, if one append brings them.
func TestGreatAppend(t *testing.T) {
	d := with(t, roomy)
	w := wantOpen(t, d)
	var l []string
	for i := range 100 {
		l = append(l, strings.Repeat(fmt.Sprint(i), 4000))
	}
	must(t, w.Append(l))
	wantNames(t, d, "s1")
	wantTold(t, w, 1, len(framesOf(l...)))
	wantOpen(t, d, l...)
}

// P5.2: of a new segment two changes are made: the last one is synced, and then the new one is there. With no last one
// there is nothing to sync: a c file, however great, is none, and it is not appended to.
func TestChangesOfNewSegment(t *testing.T) {
	full := framesOf(listTo(16384)...)
	d := with(t, roomy, laid{"s1", full})
	w, _, err := Open(d)
	must(t, err)
	wantChanges(t, d, 2, func() api.Errno { return w.Append([]string{"a"}) })
	d = with(t, roomy, laid{"s1", full})
	w, _, err = Open(d)
	must(t, err)
	must(t, d.Append("s1", "?")) // to see by which change the failure comes
	must(t, d.Fail(1, []int{0, 3}))
	wantErr(t, w.Append([]string{"a"}), api.ErrDown)
	must(t, d.Start())
	wantBytes(t, d, "s1", full+"?")
	wantBytes(t, d, "s2", frameOf("a")[:3])
	for _, bytes := range []string{"", frameOf("z"), full} {
		d := with(t, roomy, laid{"c6", bytes})
		w, _, err := Open(d)
		must(t, err)
		wantChanges(t, d, 1, func() api.Errno { return w.Append([]string{"a"}) })
		must(t, d.Start())
		w, _, err = Open(d)
		must(t, err)
		must(t, w.Append([]string{"b"}))
		wantNames(t, d, "c6", "s7")
		wantBytes(t, d, "c6", bytes)
		wantBytes(t, d, "s7", frameOf("b"))
	}
}

// P5.2: the first segment of a disk without files is s1.
func TestFirstSegment(t *testing.T) {
	d := with(t, roomy)
	must(t, wantOpen(t, d).Append([]string{"a"}))
	wantNames(t, d, "s1")
}

// P5.2: a segment that a crash left no bytes goes on being the last one.
func TestEmptyLast(t *testing.T) {
	d := with(t, roomy)
	w := wantOpen(t, d)
	must(t, w.Append([]string{"a"}))
	must(t, d.Crash(nil))
	must(t, d.Start())
	w = wantOpen(t, d)
	wantTold(t, w, 1, 0)
	must(t, w.Append([]string{"b"}))
	wantNames(t, d, "s1")
	wantOpen(t, d, "b")
}

// fullRow is row(n), the last of which has Segment bytes; s1 begins the row, or a c file in its place.
func fullRow(n int, c bool) []laid {
	files, _ := row(n)
	if c {
		files[0].name = "c1"
	}
	files[n-1].bytes = framesOf(listTo(api.Segment)...)
	return files
}

// P5.2: a new segment comes while the disk has less than MaxFiles - 1 files: one is left for a checkpoint.
func TestManyFiles(t *testing.T) {
	for _, c := range []bool{false, true} {
		d := with(t, roomy, fullRow(14, c)...)
		w, l, err := Open(d)
		must(t, err)
		must(t, w.Append([]string{"a"}))
		wantTold(t, w, 15, d.Size())
		wantOpen(t, d, append(l, "a")...)
		d = with(t, roomy, fullRow(15, c)...)
		w, l, err = Open(d)
		must(t, err)
		wantSame(t, d, api.ErrFull, func() api.Errno { return w.Append([]string{"a"}) })
		must(t, w.Append(nil))
		must(t, w.Sync())
		wantTold(t, w, 15, d.Size())
		wantOpen(t, d, l...)
		must(t, w.Checkpoint(l))
		wantNames(t, d, "c16")
		must(t, w.Append([]string{"b"}))
		wantOpen(t, d, append(l, "b")...)
	}
	files, l := row(16)
	d := with(t, roomy, files...)
	w := wantOpen(t, d, l...)
	must(t, w.Append([]string{"a"})) // the last one has room yet
	wantOpen(t, d, append(l, "a")...)
}

// P5.4: a checkpoint needs room for one file.
func TestCheckpointOfManyFiles(t *testing.T) {
	files, l := row(16)
	d := with(t, roomy, files...)
	w := wantOpen(t, d, l...)
	wantSame(t, d, api.ErrFull, func() api.Errno { return w.Checkpoint(nil) })
	must(t, w.Append([]string{"a"}))
	files, l = row(15)
	d = with(t, roomy, files...)
	w = wantOpen(t, d, l...)
	must(t, w.Checkpoint([]string{"a"}))
	wantNames(t, d, "c16")
}

// P5.2, P5.4: no file gets a number above 999999999.
func TestGreatestNumber(t *testing.T) {
	full := framesOf(listTo(api.Segment)...)
	d := with(t, roomy, laid{"c999999997", full})
	w, l, err := Open(d)
	must(t, err)
	must(t, w.Append([]string{"a"}))
	must(t, w.Append(listTo(api.Segment)))
	must(t, w.Append([]string{"b"}))
	wantNames(t, d, "c999999997", "s999999998", "s999999999")
	must(t, w.Append([]string{"c"}))
	wantSame(t, d, api.ErrFull, func() api.Errno { return w.Checkpoint([]string{"x"}) })
	l = append(append(append(l, "a"), listTo(api.Segment)...), "b", "c")
	wantOpen(t, d, l...)
	must(t, w.Append(listTo(api.Segment)))
	must(t, w.Sync())
	wantSame(t, d, api.ErrFull, func() api.Errno { return w.Append([]string{"d"}) })
	wantOpen(t, d, append(l, listTo(api.Segment)...)...)

	d = with(t, roomy, laid{"c999999999", frameOf("a")})
	w = wantOpen(t, d, "a")
	wantSame(t, d, api.ErrFull, func() api.Errno { return w.Append([]string{"b"}) })
	wantSame(t, d, api.ErrFull, func() api.Errno { return w.Checkpoint([]string{"b"}) })
	must(t, w.Sync())
	wantTold(t, w, 1, 6)

	d = with(t, roomy, laid{"c999999998", frameOf("a")})
	w = wantOpen(t, d, "a")
	must(t, w.Checkpoint([]string{"b"}))
	wantNames(t, d, "c999999999")
	d = with(t, roomy, laid{"c999999998", frameOf("a")})
	must(t, wantOpen(t, d, "a").Append([]string{"b"}))
	wantNames(t, d, "c999999998", "s999999999")
}

// P5.2: a disk without room for an append: no payload is appended, the Wal goes on, and a smaller one finds room.
func TestNoRoomForAppend(t *testing.T) {
	d := with(t, 17)
	w := wantOpen(t, d)
	wantSame(t, d, api.ErrFull, func() api.Errno { return w.Append([]string{"a", "b", "c"}) })
	wantNames(t, d)
	must(t, w.Append([]string{"a"}))
	wantSame(t, d, api.ErrFull, func() api.Errno { return w.Append([]string{"b", "c"}) })
	wantSame(t, d, api.ErrFull, func() api.Errno { return w.Append([]string{strings.Repeat("d", 8)}) })
	must(t, w.Append([]string{"b"}))
	must(t, w.Append([]string{""}))
	wantSame(t, d, api.ErrFull, func() api.Errno { return w.Append([]string{""}) })
	must(t, w.Append(nil))
	must(t, w.Sync())
	wantTold(t, w, 1, 17)
	wantOpen(t, d, "a", "b", "")
}

// P5.2: without room for a new segment no payload is appended; the last one may be synced.
func TestNoRoomForNewSegment(t *testing.T) {
	d := with(t, api.Segment+7)
	w := wantOpen(t, d)
	l := listTo(api.Segment)
	must(t, w.Append(l))
	wantErr(t, w.Append([]string{"abc"}), api.ErrFull)
	wantNames(t, d, "s1")
	wantBytes(t, d, "s1", framesOf(l...))
	must(t, w.Append([]string{"ab"}))
	wantNames(t, d, "s1", "s2")
	wantOpen(t, d, append(l, "ab")...)
}

// P5.2, P5.4: lists that no disk has room for are told to be such.
func TestListsForNoDisk(t *testing.T) {
	d := with(t, api.MaxDisk)
	w := wantOpen(t, d)
	l := make([]string, 1<<20)
	most := strings.Repeat("x", 8192)
	for i := range l {
		l[i] = most[:i%8193]
	}
	wantSame(t, d, api.ErrFull, func() api.Errno { return w.Append(l) })
	wantSame(t, d, api.ErrFull, func() api.Errno { return w.Checkpoint(l) })
	l[len(l)-1] = most + "x"
	wantSame(t, d, api.ErrLong, func() api.Errno { return w.Append(l) })
	wantSame(t, d, api.ErrLong, func() api.Errno { return w.Checkpoint(l) })
	full := listTo(api.MaxDisk)
	wantSame(t, d, api.ErrFull, func() api.Errno { return w.Append(append(slices.Clone(full), "")) })
	must(t, w.Append(full))
	wantTold(t, w, 1, api.MaxDisk)
	wantOpen(t, d, full...)
}

// P5.3: Sync makes the last segment sure by one change, and touches nothing else.
func TestSync(t *testing.T) {
	d := with(t, roomy, laid{"c1", frameOf("a")}, laid{"s2", frameOf("b")})
	w := wantOpen(t, d, "a", "b")
	must(t, w.Append([]string{"c"}))
	wantUnsynced(t, d, 0, 6)
	wantChanges(t, d, 1, w.Sync)
	must(t, d.Start())
	w = wantOpen(t, d, "a", "b", "c")
	must(t, d.Fail(1, nil))
	must(t, w.Sync()) // what is sure is synced all the same
	wantErr(t, w.Sync(), api.ErrDown)
	must(t, d.Start())
	wantOpen(t, d, "a", "b", "c")
}

// P5.3: with no last segment Sync has nothing to do.
func TestSyncOfNothing(t *testing.T) {
	for _, files := range [][]laid{nil, {{"c4", frameOf("a")}}} {
		d := with(t, roomy, files...)
		w, _, err := Open(d)
		must(t, err)
		must(t, d.Fail(0, nil))
		wantSame(t, d, api.OK, w.Sync)
		must(t, w.Sync())
	}
}

// P5.3: what a last segment has is told, too, when it was empty, and when it was full.
func TestSizes(t *testing.T) {
	d := with(t, roomy)
	w := wantOpen(t, d)
	size := 0
	for i := range 40 {
		p := strings.Repeat("p", i*97)
		must(t, w.Append([]string{p, ""}))
		size += len(framesOf(p, ""))
		wantTold(t, w, len(d.Names()), size)
	}
	if len(d.Names()) < 4 {
		t.Errorf("%d segments only", len(d.Names()))
	}
	must(t, w.Checkpoint([]string{"q"}))
	wantTold(t, w, 1, 6)
	must(t, w.Checkpoint(nil))
	wantTold(t, w, 1, 0)
	must(t, w.Append([]string{"r"}))
	wantTold(t, w, 2, 6)
}
