package disk

import (
	"fmt"
	"math"
	"math/rand"
	"slices"
	"strings"
	"testing"

	"archipelago/api"
)

// made is a disk of that capacity.
func made(t *testing.T, capacity int) *Disk {
	t.Helper()
	d, err := New(capacity)
	if d == nil || err != api.OK {
		t.Fatalf("New(%d) = %v, %d", capacity, d, err)
	}
	return d
}

// laid is a file as a test lays it: what is synced of it, and what stands behind that.
type laid struct{ name, synced, behind string }

// with is a disk with these files.
func with(t *testing.T, capacity int, files ...laid) *Disk {
	t.Helper()
	d := made(t, capacity)
	for _, f := range files {
		must(t, d.Append(f.name, f.synced))
		must(t, d.Sync(f.name))
		must(t, d.Append(f.name, f.behind))
	}
	return d
}

// manyFiles is a disk with that many files, named a, b and so on, each of one byte that is synced.
func manyFiles(t *testing.T, capacity, count int) *Disk {
	t.Helper()
	d := made(t, capacity)
	for i := range count {
		name := letter(i)
		must(t, d.Append(name, name))
		must(t, d.Sync(name))
	}
	return d
}

func letter(i int) string { return string([]byte{byte('a' + i)}) }

func must(t *testing.T, err api.Errno) {
	t.Helper()
	wantErr(t, err, api.OK)
}

func wantErr(t *testing.T, err, want api.Errno) {
	t.Helper()
	if err != want {
		t.Errorf("error %d, want %d", err, want)
	}
}

func wantRead(t *testing.T, d *Disk, name, want string) {
	t.Helper()
	if s, err := d.Read(name); s != want || err != api.OK {
		t.Errorf("Read(%q) = %.40q, %d, want %.40q", name, s, err, want)
	}
}

func wantNoRead(t *testing.T, d *Disk, name string, want api.Errno) {
	t.Helper()
	if s, err := d.Read(name); s != "" || err != want {
		t.Errorf("Read(%q) = %.40q, %d, want error %d", name, s, err, want)
	}
}

func wantNames(t *testing.T, d *Disk, want ...string) {
	t.Helper()
	if l := d.Names(); !slices.Equal(l, want) {
		t.Errorf("Names = %q, want %q", l, want)
	}
}

func wantUnsynced(t *testing.T, d *Disk, want ...int) {
	t.Helper()
	if l := d.Unsynced(); !slices.Equal(l, want) {
		t.Errorf("Unsynced = %v, want %v", l, want)
	}
}

func wantSize(t *testing.T, d *Disk, want int) {
	t.Helper()
	if n := d.Size(); n != want {
		t.Errorf("Size = %d, want %d", n, want)
	}
}

// image is all that a disk tells; the bytes only where it is up.
func image(d *Disk) string {
	var b strings.Builder
	fmt.Fprintln(&b, d.Up(), d.Starts(), d.Size(), d.Unsynced())
	for _, name := range d.Names() {
		s, err := d.Read(name)
		fmt.Fprintf(&b, "%q %q %d\n", name, s, err)
	}
	return b.String()
}

// wantSame does what is handed in, and wants its error, and all that the disk tells to be what it was.
func wantSame(t *testing.T, d *Disk, want api.Errno, do func() api.Errno) {
	t.Helper()
	before := image(d)
	wantErr(t, do(), want)
	if after := image(d); after != before {
		t.Errorf("changed with error %d:\n%s\nwant\n%s", want, after, before)
	}
}

// changesOf are the five calls that change files, each such that it is OK while there is a file of that name.
func changesOf(d *Disk, name string) map[string]func() api.Errno {
	return map[string]func() api.Errno{
		"Append":   func() api.Errno { return d.Append(name, "!") },
		"Sync":     func() api.Errno { return d.Sync(name) },
		"Truncate": func() api.Errno { return d.Truncate(name, 1) },
		"Rename":   func() api.Errno { return d.Rename(name, "other") },
		"Remove":   func() api.Errno { return d.Remove(name) },
	}
}

// P4.1 to P4.5: the chapter's examples.
func TestExamples(t *testing.T) {
	d := made(t, 10)
	must(t, d.Append("b", "xyz"))
	must(t, d.Sync("b"))
	must(t, d.Append("b", "uv"))
	must(t, d.Append("a", "12345"))
	wantErr(t, d.Append("a", "6"), api.ErrFull)
	wantNames(t, d, "a", "b")
	wantSize(t, d, 10)
	wantUnsynced(t, d, 5, 2)
	wantRead(t, d, "b", "xyzuv")

	must(t, d.Crash([]int{3, 1}))
	wantNoRead(t, d, "b", api.ErrDown)
	must(t, d.Start())
	wantRead(t, d, "a", "123")
	wantRead(t, d, "b", "xyzu")
	if d.Starts() != 1 {
		t.Errorf("Starts = %d", d.Starts())
	}

	must(t, d.Fail(1, []int{0, 1}))
	must(t, d.Append("b", "q"))
	wantErr(t, d.Append("b", "rs"), api.ErrDown)
	must(t, d.Start())
	wantRead(t, d, "b", "xyzuq")

	must(t, d.Rename("a", "b"))
	wantNames(t, d, "b")
	wantRead(t, d, "b", "123")
	wantErr(t, d.Truncate("b", 4), api.ErrArg)
	wantErr(t, d.Remove("a"), api.ErrNone)
	wantErr(t, d.Append(strings.Repeat("n", 17), ""), api.ErrArg)
}

// P4.1: capacities from 1 to 2^20 make a disk that is up and has no files; all others make none.
func TestNew(t *testing.T) {
	for _, capacity := range []int{1, 2, 10, 1<<20 - 1, 1 << 20} {
		d := made(t, capacity)
		wantNames(t, d)
		wantUnsynced(t, d)
		wantSize(t, d, 0)
		if !d.Up() || d.Starts() != 0 {
			t.Errorf("a new disk: up %v, %d starts", d.Up(), d.Starts())
		}
		must(t, d.Append("f", strings.Repeat("x", capacity)))
		wantErr(t, d.Append("f", "x"), api.ErrFull)
	}
	for _, capacity := range []int{0, -1, 1<<20 + 1, 1 << 40, math.MaxInt, math.MinInt} {
		if d, err := New(capacity); d != nil || err != api.ErrArg {
			t.Errorf("New(%d) = %v, %d", capacity, d, err)
		}
	}
}

// P4.1: disks have nothing in common.
func TestDisksAreApart(t *testing.T) {
	a, b := made(t, 5), made(t, 5)
	must(t, a.Append("f", "12345"))
	wantNames(t, b)
	must(t, b.Append("f", "abc"))
	must(t, a.Crash(nil))
	wantRead(t, b, "f", "abc")
	wantUnsynced(t, b, 3)
}

// Every call of a disk that is nil, or that New did not make.
func TestDisksThatAreNone(t *testing.T) {
	for _, d := range []*Disk{nil, {}, new(Disk)} {
		for what, err := range map[string]api.Errno{
			"Append": d.Append("a", "b"), "Append of no name": d.Append("", ""),
			"Sync": d.Sync("a"), "Truncate": d.Truncate("a", -1), "Rename": d.Rename("a", ""), "Remove": d.Remove("a"),
			"Crash": d.Crash([]int{1}), "Crash of nothing": d.Crash(nil),
			"Fail": d.Fail(0, nil), "Fail below 0": d.Fail(-1, []int{1}), "Start": d.Start(),
		} {
			if err != api.ErrNil {
				t.Errorf("%s = %d", what, err)
			}
		}
		wantNoRead(t, d, "a", api.ErrNil)
		wantNames(t, d)
		wantUnsynced(t, d)
		wantSize(t, d, 0)
		if d.Up() || d.Starts() != 0 {
			t.Errorf("none: up %v, %d starts", d.Up(), d.Starts())
		}
	}
}

// P4.2 to P4.5: every call of a disk that is down; ErrDown is told ahead of all other errors, and what needs no file's
// bytes is told all the same.
func TestDisksThatAreDown(t *testing.T) {
	d := with(t, 9, laid{"a", "12", "34"}, laid{"b", "", "xyz"})
	must(t, d.Crash([]int{1}))
	long := strings.Repeat("n", 17)
	for what, do := range map[string]func() api.Errno{
		"Append":            func() api.Errno { return d.Append("a", "b") },
		"Append of nothing": func() api.Errno { return d.Append("a", "") },
		"Append of no name": func() api.Errno { return d.Append("", "") },
		"Append too long":   func() api.Errno { return d.Append(long, "0123456789") },
		"Append too much":   func() api.Errno { return d.Append("a", "0123456789") },
		"Sync":              func() api.Errno { return d.Sync("a") },
		"Sync of none":      func() api.Errno { return d.Sync("c") },
		"Truncate":          func() api.Errno { return d.Truncate("a", 0) },
		"Truncate of none":  func() api.Errno { return d.Truncate("c", 0) },
		"Truncate below 0":  func() api.Errno { return d.Truncate("a", -1) },
		"Rename":            func() api.Errno { return d.Rename("a", "b") },
		"Rename to itself":  func() api.Errno { return d.Rename("a", "a") },
		"Rename of none":    func() api.Errno { return d.Rename("c", "") },
		"Remove":            func() api.Errno { return d.Remove("a") },
		"Remove of none":    func() api.Errno { return d.Remove("c") },
		"Crash":             func() api.Errno { return d.Crash(nil) },
		"Fail":              func() api.Errno { return d.Fail(0, nil) },
		"Fail below 0":      func() api.Errno { return d.Fail(-1, nil) },
	} {
		t.Run(what, func(t *testing.T) { wantSame(t, d, api.ErrDown, do) })
	}
	wantNoRead(t, d, "a", api.ErrDown)
	wantNoRead(t, d, "c", api.ErrDown)
	wantNames(t, d, "a", "b")
	wantUnsynced(t, d, 0, 0)
	wantSize(t, d, 3)
	if d.Up() || d.Starts() != 0 {
		t.Errorf("down: up %v, %d starts", d.Up(), d.Starts())
	}
	must(t, d.Start())
	wantRead(t, d, "a", "123")
	wantRead(t, d, "b", "")
}

// P4.2: names have 1 to 16 bytes, any of the 256.
func TestNamesOfFiles(t *testing.T) {
	for _, size := range []int{1, 2, 15, 16} {
		for _, b := range []string{"\x00", "\xff", "n", "\n", "/"} {
			d := made(t, 10)
			name := strings.Repeat(b, size)
			must(t, d.Append(name, "x"))
			wantNames(t, d, name)
			wantRead(t, d, name, "x")
			must(t, d.Rename(name, "m"))
			must(t, d.Rename("m", name))
			wantNames(t, d, name)
		}
	}
	d := with(t, 10, laid{"a", "1", "2"})
	for _, name := range []string{"", strings.Repeat("n", 17), strings.Repeat("\x00", 100), strings.Repeat("é", 9)} {
		wantSame(t, d, api.ErrArg, func() api.Errno { return d.Append(name, "x") })
		wantSame(t, d, api.ErrArg, func() api.Errno { return d.Append(name, "") })
		wantSame(t, d, api.ErrArg, func() api.Errno { return d.Rename("a", name) })
		wantSame(t, d, api.ErrNone, func() api.Errno { return d.Rename(name, "b") })
		wantSame(t, d, api.ErrNone, func() api.Errno { return d.Sync(name) })
		wantSame(t, d, api.ErrNone, func() api.Errno { return d.Truncate(name, 0) })
		wantSame(t, d, api.ErrNone, func() api.Errno { return d.Remove(name) })
		wantNoRead(t, d, name, api.ErrNone)
	}
}

// P4.2: where no file is of that name.
func TestFilesThatAreNotThere(t *testing.T) {
	for _, d := range []*Disk{made(t, 10), with(t, 10, laid{"a", "1", "2"}, laid{"c", "", ""})} {
		for _, name := range []string{"b", "A", "aa", "", "a\x00"} {
			for what, do := range changesOf(d, name) {
				if what != "Append" {
					wantSame(t, d, api.ErrNone, do)
				}
			}
			wantNoRead(t, d, name, api.ErrNone)
		}
	}
}

// P4.2: what is appended stands behind what was, not synced.
func TestAppend(t *testing.T) {
	d := made(t, 100)
	must(t, d.Append("f", "ab"))
	must(t, d.Append("f", "\x00\xff"))
	wantRead(t, d, "f", "ab\x00\xff")
	wantUnsynced(t, d, 4)
	must(t, d.Sync("f"))
	must(t, d.Append("f", "cde"))
	wantRead(t, d, "f", "ab\x00\xffcde")
	wantUnsynced(t, d, 3)
	wantSize(t, d, 7)
}

// P4.2: an append of nothing leaves a file what it is, and one that was not there is there from then on.
func TestAppendOfNothing(t *testing.T) {
	d := with(t, 3, laid{"b", "1", "23"})
	wantSame(t, d, api.OK, func() api.Errno { return d.Append("b", "") })
	must(t, d.Append("a", ""))
	wantNames(t, d, "a", "b")
	wantRead(t, d, "a", "")
	wantUnsynced(t, d, 0, 2)
	wantSize(t, d, 3)
	wantErr(t, d.Append("a", "x"), api.ErrFull)
	must(t, d.Crash(nil))
	wantNames(t, d, "a", "b")
}

// P4.2: a disk takes as many bytes as its capacity, of all files together, and not one more.
func TestCapacity(t *testing.T) {
	for _, capacity := range []int{1, 2, 10, 1000, 1 << 20} {
		d := made(t, capacity)
		half := capacity / 2
		must(t, d.Append("a", strings.Repeat("x", half)))
		must(t, d.Sync("a"))
		for _, name := range []string{"a", "b"} {
			wantSame(t, d, api.ErrFull, func() api.Errno { return d.Append(name, strings.Repeat("y", capacity-half+1)) })
		}
		must(t, d.Append("b", strings.Repeat("y", capacity-half)))
		wantSize(t, d, capacity)
		for _, name := range []string{"a", "b", "c"} {
			wantSame(t, d, api.ErrFull, func() api.Errno { return d.Append(name, "z") })
		}
		must(t, d.Append("a", ""))
		must(t, d.Append("c", ""))
		must(t, d.Remove("b"))
		must(t, d.Append("c", strings.Repeat("z", capacity-half)))
		wantErr(t, d.Append("c", "z"), api.ErrFull)
	}
}

// P4.2: what is cut off, renamed over, removed, or lost by a crash makes room.
func TestRoomAnew(t *testing.T) {
	for what, free := range map[string]func(d *Disk) api.Errno{
		"Truncate": func(d *Disk) api.Errno { return d.Truncate("b", 1) },
		"Rename":   func(d *Disk) api.Errno { return d.Rename("a", "b") },
		"Remove":   func(d *Disk) api.Errno { return d.Remove("b") },
		"Crash":    func(d *Disk) api.Errno { return d.Crash([]int{9, 1}) + d.Start() },
	} {
		d := with(t, 10, laid{"a", "123", "45"}, laid{"b", "", "xyzuv"})
		wantErr(t, d.Append("a", "!"), api.ErrFull)
		must(t, free(d))
		room := 10 - d.Size()
		if room < 4 {
			t.Errorf("%s makes room for %d", what, room)
		}
		wantErr(t, d.Append("c", strings.Repeat("r", room+1)), api.ErrFull)
		must(t, d.Append("c", strings.Repeat("r", room)))
	}
}

// P4.2: there are 16 files at most; those that are there grow all the same.
func TestSixteenFiles(t *testing.T) {
	d := manyFiles(t, 100, 15)
	must(t, d.Append("p", ""))
	if n := len(d.Names()); n != 16 {
		t.Fatalf("%d files", n)
	}
	for _, s := range []string{"", "x", strings.Repeat("x", 1000)} {
		wantSame(t, d, api.ErrFull, func() api.Errno { return d.Append("q", s) })
		wantSame(t, d, api.ErrFull, func() api.Errno { return d.Append("A", s) })
	}
	wantSame(t, d, api.ErrArg, func() api.Errno { return d.Append("", "") })
	for _, name := range d.Names() {
		must(t, d.Append(name, "+"))
	}
	must(t, d.Rename("h", "z"))
	wantRead(t, d, "z", "h+")
	wantErr(t, d.Append("h", ""), api.ErrFull)
	must(t, d.Rename("a", "b"))
	must(t, d.Append("h", "anew"))
	wantErr(t, d.Append("a", ""), api.ErrFull)
	must(t, d.Remove("z"))
	must(t, d.Append("a", ""))
	wantNames(t, d, strings.Split("abcdefghijklmnop", "")...)
	wantRead(t, d, "b", "a+")
}

// P4.2: Sync makes all bytes sure, of that file alone.
func TestSync(t *testing.T) {
	d := with(t, 20, laid{"a", "1", "23"}, laid{"b", "x", "yz"}, laid{"c", "", ""})
	must(t, d.Sync("b"))
	wantUnsynced(t, d, 2, 0, 0)
	wantSame(t, d, api.OK, func() api.Errno { return d.Sync("b") })
	wantSame(t, d, api.OK, func() api.Errno { return d.Sync("c") })
	must(t, d.Crash(nil))
	must(t, d.Start())
	wantRead(t, d, "a", "1")
	wantRead(t, d, "b", "xyz")
	wantRead(t, d, "c", "")
}

// P4.2: Truncate to nothing, to all, below what is synced, between, and to what is no number of its bytes.
func TestTruncate(t *testing.T) {
	for _, x := range []struct{ n, unsynced int }{{0, 0}, {1, 0}, {2, 0}, {3, 0}, {4, 1}, {5, 2}} {
		d := with(t, 20, laid{"a", "q", "r"}, laid{"b", "xyz", "uv"})
		must(t, d.Truncate("b", x.n))
		wantRead(t, d, "b", "xyzuv"[:x.n])
		wantUnsynced(t, d, 1, x.unsynced)
		wantSize(t, d, 2+x.n)
		must(t, d.Append("b", "!!"))
		wantRead(t, d, "b", "xyzuv"[:x.n]+"!!")
		wantUnsynced(t, d, 1, x.unsynced+2)
		must(t, d.Crash(nil))
		must(t, d.Start())
		wantRead(t, d, "b", "xyzuv"[:min(x.n, 3)])
	}
	d := with(t, 20, laid{"b", "xyz", "uv"}, laid{"e", "", ""})
	for _, n := range []int{-1, 6, math.MinInt, math.MaxInt} {
		wantSame(t, d, api.ErrArg, func() api.Errno { return d.Truncate("b", n) })
		wantSame(t, d, api.ErrNone, func() api.Errno { return d.Truncate("c", n) })
	}
	wantSame(t, d, api.OK, func() api.Errno { return d.Truncate("e", 0) })
	wantSame(t, d, api.ErrArg, func() api.Errno { return d.Truncate("e", 1) })
}

// P4.2: a file that is renamed has its bytes, as much of them synced as was, and stands in order by its new name.
func TestRename(t *testing.T) {
	for _, to := range []string{"A", "ab", "bb", "cc", "z", "a\x00"} {
		d := with(t, 30, laid{"a", "12", "3"}, laid{"b", "xyz", "uv"}, laid{"c", "", "w"})
		must(t, d.Rename("b", to))
		names := []string{"a", "c", to}
		slices.Sort(names)
		wantNames(t, d, names...)
		wantRead(t, d, to, "xyzuv")
		wantRead(t, d, "a", "123")
		wantRead(t, d, "c", "w")
		wantNoRead(t, d, "b", api.ErrNone)
		wantSize(t, d, 9)
		if n := d.Unsynced()[slices.Index(names, to)]; n != 2 {
			t.Errorf("%d bytes of %q are not synced", n, to)
		}
		must(t, d.Append("b", "new"))
		wantRead(t, d, to, "xyzuv")
	}
}

// P4.2: a rename over another file: that one is gone, with what of it was synced; to its own name: nothing changes.
func TestRenameOver(t *testing.T) {
	for _, x := range []struct{ from, to string }{{"a", "b"}, {"a", "c"}, {"b", "a"}, {"b", "c"}, {"c", "a"}, {"c", "b"}} {
		bytes := map[string]string{"a": "12345", "b": "xyz", "c": ""}
		unsynced := map[string]int{"a": 3, "b": 0, "c": 0}
		d := with(t, 8, laid{"a", "12", "345"}, laid{"b", "xyz", ""}, laid{"c", "", ""})
		must(t, d.Rename(x.from, x.to))
		bytes[x.to], unsynced[x.to] = bytes[x.from], unsynced[x.from]
		delete(bytes, x.from)
		names := slices.DeleteFunc([]string{"a", "b", "c"}, func(name string) bool { return name == x.from })
		wantNames(t, d, names...)
		wantUnsynced(t, d, unsynced[names[0]], unsynced[names[1]])
		for name, s := range bytes {
			wantRead(t, d, name, s)
		}
	}
	for _, name := range []string{"a", "b", "c"} {
		d := with(t, 8, laid{"a", "12", "345"}, laid{"b", "xyz", ""}, laid{"c", "", ""})
		wantSame(t, d, api.OK, func() api.Errno { return d.Rename(name, name) })
	}
}

// P4.2: where there are 16 files each can be renamed, to a new name, over another, and to its own.
func TestRenameAmongSixteen(t *testing.T) {
	for i := range 16 {
		d := manyFiles(t, 16, 16)
		must(t, d.Rename(letter(i), "zz"))
		wantRead(t, d, "zz", letter(i))
		must(t, d.Rename("zz", letter(i)))
		wantNames(t, d, strings.Split("abcdefghijklmnop", "")...)
		wantSame(t, d, api.OK, func() api.Errno { return d.Rename(letter(i), letter(i)) })
		other := letter((i + 7) % 16)
		must(t, d.Rename(letter(i), other))
		wantRead(t, d, other, letter(i))
		if n := len(d.Names()); n != 15 {
			t.Errorf("%d files", n)
		}
	}
}

// P4.2: a file that is removed is gone, the others are what they were, and by its name a new one begins at nothing.
func TestRemove(t *testing.T) {
	for i := range 5 {
		d := manyFiles(t, 20, 5)
		must(t, d.Append(letter(i), "more"))
		must(t, d.Remove(letter(i)))
		wantSize(t, d, 4)
		wantNoRead(t, d, letter(i), api.ErrNone)
		wantErr(t, d.Remove(letter(i)), api.ErrNone)
		for k := range 5 {
			if k != i {
				wantRead(t, d, letter(k), letter(k))
			}
		}
		must(t, d.Append(letter(i), "n"))
		wantRead(t, d, letter(i), "n")
		must(t, d.Crash(nil))
		must(t, d.Start())
		wantRead(t, d, letter(i), "")
	}
}

// P4.2: of two errors that hold at once the one that is told first is the answer.
func TestErrorsInOrder(t *testing.T) {
	d := manyFiles(t, 16, 16)
	for _, x := range []struct {
		what string
		do   func() api.Errno
		want api.Errno
	}{
		{"no name, too many files, no room", func() api.Errno { return d.Append("", strings.Repeat("x", 20)) }, api.ErrArg},
		{"a long name, too many files", func() api.Errno { return d.Append(strings.Repeat("n", 17), "") }, api.ErrArg},
		{"too many files, no room", func() api.Errno { return d.Append("zz", "x") }, api.ErrFull},
		{"no file, no length", func() api.Errno { return d.Truncate("zz", -1) }, api.ErrNone},
		{"no file, no name to", func() api.Errno { return d.Rename("zz", "") }, api.ErrNone},
		{"neither a file nor a name, no name to", func() api.Errno { return d.Rename("", strings.Repeat("n", 17)) }, api.ErrNone},
		{"up, and below 0", func() api.Errno { return d.Fail(-1, nil) }, api.ErrArg},
		{"up, and started", d.Start, api.ErrArg},
	} {
		t.Run(x.what, func(t *testing.T) { wantSame(t, d, x.want, x.do) })
	}
}

// P4.3: names rise byte by byte, and what is not synced is told in their order.
func TestOrderOfNames(t *testing.T) {
	rising := []string{"\x00", "\x00\x00", "\x01", "A", "B", "Z", "a", "a\x00", "aa", "ab", "b", "ba", "\x7f", "\x80", "é", "\xff"}
	for seed := range 50 {
		d := made(t, 200)
		for _, i := range rand.New(rand.NewSource(int64(seed))).Perm(len(rising)) {
			must(t, d.Append(rising[i], strings.Repeat("x", i)))
		}
		wantNames(t, d, rising...)
		for i, n := range d.Unsynced() {
			if n != i {
				t.Errorf("of %q %d bytes are not synced, want %d", rising[i], n, i)
			}
		}
		wantSize(t, d, 120)
	}
}

// P4.3: how often a disk was started, whatever took it down.
func TestStarts(t *testing.T) {
	d := made(t, 10)
	for n := range 5 {
		if d.Starts() != n || !d.Up() {
			t.Fatalf("%d starts, up %v, want %d", d.Starts(), d.Up(), n)
		}
		wantErr(t, d.Start(), api.ErrArg)
		if n%2 == 0 {
			must(t, d.Crash(nil))
		} else {
			must(t, d.Fail(0, nil))
			wantErr(t, d.Append("a", ""), api.ErrDown)
		}
		if d.Starts() != n || d.Up() {
			t.Fatalf("%d starts, up %v, want %d and down", d.Starts(), d.Up(), n)
		}
		must(t, d.Start())
	}
}

// P4.4: what a crash leaves of each file: lists that are shorter and longer than there are files, with numbers below 0,
// and beyond what is not synced.
func TestCrash(t *testing.T) {
	for _, x := range []struct {
		keep    []int
		a, b, c string
	}{
		{nil, "12", "", "pqr"},
		{[]int{}, "12", "", "pqr"},
		{[]int{0, 0, 0}, "12", "", "pqr"},
		{[]int{1}, "123", "", "pqr"},
		{[]int{0, 1}, "12", "x", "pqr"},
		{[]int{3, 2, 1}, "12345", "xy", "pqr"},
		{[]int{2, 3, 0, 1}, "1234", "xyz", "pqr"},
		{[]int{4, 4, 4, 4, 4}, "12345", "xyz", "pqr"},
		{[]int{-1, -5, -1}, "12", "", "pqr"},
		{[]int{math.MaxInt, math.MinInt, math.MaxInt}, "12345", "", "pqr"},
		{[]int{math.MinInt, math.MaxInt}, "12", "xyz", "pqr"},
		{make([]int, 1000), "12", "", "pqr"},
	} {
		d := with(t, 20, laid{"c", "pqr", ""}, laid{"a", "12", "345"}, laid{"b", "", "xyz"})
		keep := slices.Clone(x.keep)
		must(t, d.Crash(x.keep))
		if !slices.Equal(keep, x.keep) {
			t.Errorf("the list is %v, was %v", x.keep, keep)
		}
		if d.Up() {
			t.Error("up behind a crash")
		}
		wantNames(t, d, "a", "b", "c")
		wantUnsynced(t, d, 0, 0, 0)
		wantSize(t, d, len(x.a+x.b+x.c))
		must(t, d.Start())
		wantRead(t, d, "a", x.a)
		wantRead(t, d, "b", x.b)
		wantRead(t, d, "c", x.c)
		wantUnsynced(t, d, 0, 0, 0)
	}
}

// P4.4: a disk without files goes down, and starts, too.
func TestCrashWithoutFiles(t *testing.T) {
	d := made(t, 1)
	must(t, d.Crash([]int{1, 2}))
	wantErr(t, d.Crash(nil), api.ErrDown)
	must(t, d.Start())
	wantErr(t, d.Start(), api.ErrArg)
	wantNames(t, d)
	must(t, d.Append("a", "1"))
}

// P4.5: a failure of n lets n changes be done, whichever they are, and comes by the next one.
func TestFailCounts(t *testing.T) {
	for n := range 12 {
		d := made(t, 100)
		must(t, d.Fail(n, []int{math.MaxInt}))
		changes := []func() api.Errno{
			func() api.Errno { return d.Append("a", "12") },
			func() api.Errno { return d.Append("a", "") },
			func() api.Errno { return d.Sync("a") },
			func() api.Errno { return d.Sync("a") },
			func() api.Errno { return d.Rename("a", "b") },
			func() api.Errno { return d.Rename("b", "b") },
			func() api.Errno { return d.Truncate("b", 2) },
			func() api.Errno { return d.Truncate("b", 1) },
			func() api.Errno { return d.Append("c", "") },
			func() api.Errno { return d.Remove("b") },
			func() api.Errno { return d.Remove("c") },
		}
		for i, change := range changes {
			want := api.OK
			if i >= n {
				want = api.ErrDown
			}
			if err := change(); err != want || d.Up() != (i < n) {
				t.Errorf("a failure of %d: the change at %d = %d, up %v", n, i, err, d.Up())
			}
		}
	}
	d := made(t, 10)
	must(t, d.Fail(math.MaxInt, nil))
	for range 100 {
		must(t, d.Append("a", ""))
	}
}

// P4.5: an append that fails is done, and of it stays what the list says; all others that fail are not done.
func TestFailOfEach(t *testing.T) {
	for _, what := range []string{"Append", "Sync", "Truncate", "Rename", "Remove"} {
		for _, x := range []struct {
			keep           []int
			a, grown, next string
		}{
			{nil, "12", "12", "p"},
			{[]int{1}, "123", "123", "p"},
			{[]int{2, 1}, "1234", "1234", "pq"},
			{[]int{3, 0}, "1234", "1234!", "p"},
			{[]int{-3, 9}, "12", "12", "pq"},
		} {
			d := with(t, 20, laid{"a", "12", "34"}, laid{"next", "p", "q"})
			must(t, d.Fail(0, x.keep))
			wantErr(t, changesOf(d, "a")[what](), api.ErrDown)
			wantErr(t, d.Crash(nil), api.ErrDown)
			wantNames(t, d, "a", "next")
			wantUnsynced(t, d, 0, 0)
			must(t, d.Start())
			if what == "Append" {
				wantRead(t, d, "a", x.grown)
			} else {
				wantRead(t, d, "a", x.a)
			}
			wantRead(t, d, "next", x.next)
		}
	}
}

// P4.5: an append that fails and begins a file: the file is there, and has its place among those that the list speaks of.
func TestFailOfNewFile(t *testing.T) {
	for _, x := range []struct {
		keep    []int
		a, b, c string
	}{{nil, "", "", ""}, {[]int{1, 2, 3}, "1", "xy", "pqr"}, {[]int{0, 1}, "", "x", ""}, {[]int{9, -1, 1}, "123", "", "p"}} {
		d := with(t, 20, laid{"a", "", "123"}, laid{"c", "", "pqr"})
		must(t, d.Fail(0, x.keep))
		wantErr(t, d.Append("b", "xyz"), api.ErrDown)
		wantNames(t, d, "a", "b", "c")
		must(t, d.Start())
		wantRead(t, d, "a", x.a)
		wantRead(t, d, "b", x.b)
		wantRead(t, d, "c", x.c)
	}
}

// P4.5: a failure is set in the place of one that was, be its number less or more.
func TestFailAnew(t *testing.T) {
	for _, x := range []struct{ first, done, second int }{{0, 0, 2}, {5, 0, 0}, {5, 3, 1}, {1, 1, 3}, {2, 1, 1}} {
		d := with(t, 50, laid{"a", "", "12"})
		must(t, d.Fail(x.first, nil))
		for range x.done {
			must(t, d.Append("a", "+"))
		}
		must(t, d.Fail(x.second, []int{1}))
		for range x.second {
			must(t, d.Append("a", "+"))
		}
		wantErr(t, d.Append("a", "+"), api.ErrDown)
		must(t, d.Start())
		wantRead(t, d, "a", "1")
	}
}

// P4.5: a failure that is refused leaves the one that was set.
func TestFailRefused(t *testing.T) {
	for _, n := range []int{-1, -2, math.MinInt} {
		d := with(t, 20, laid{"a", "", "12"})
		must(t, d.Fail(1, []int{1}))
		wantSame(t, d, api.ErrArg, func() api.Errno { return d.Fail(n, []int{2}) })
		must(t, d.Append("a", "3"))
		wantErr(t, d.Sync("a"), api.ErrDown)
		must(t, d.Start())
		wantRead(t, d, "a", "1")
		wantSame(t, d, api.ErrArg, func() api.Errno { return d.Fail(n, nil) })
		must(t, d.Append("a", "3"))
	}
}

// P4.5, R4: the list is what it was when it was handed in.
func TestFailKeepsItsList(t *testing.T) {
	d := with(t, 20, laid{"a", "", "123"}, laid{"b", "", "xyz"})
	keep := []int{2, 1, 7}
	must(t, d.Fail(0, keep))
	keep[0], keep[1] = 0, 3
	_ = append(keep[:0], 9, 9, 9)
	wantErr(t, d.Sync("a"), api.ErrDown)
	if !slices.Equal(keep, []int{9, 9, 9}) {
		t.Errorf("the list became %v", keep)
	}
	must(t, d.Start())
	wantRead(t, d, "a", "12")
	wantRead(t, d, "b", "x")
}

// P4.5: changes that are refused, and what changes no file, do not count, and do not fail.
func TestRefusedChangesDoNotCount(t *testing.T) {
	for n := range 3 {
		d := manyFiles(t, 17, 16)
		must(t, d.Fail(n, nil))
		refused := func() {
			wantErr(t, d.Append("", "x"), api.ErrArg)
			wantErr(t, d.Append("zz", ""), api.ErrFull)
			wantErr(t, d.Append("a", "123"), api.ErrFull)
			wantErr(t, d.Sync("zz"), api.ErrNone)
			wantErr(t, d.Truncate("zz", 0), api.ErrNone)
			wantErr(t, d.Truncate("a", 2), api.ErrArg)
			wantErr(t, d.Rename("zz", "a"), api.ErrNone)
			wantErr(t, d.Rename("a", ""), api.ErrArg)
			wantErr(t, d.Remove("zz"), api.ErrNone)
			wantErr(t, d.Start(), api.ErrArg)
			wantNoRead(t, d, "zz", api.ErrNone)
			wantRead(t, d, "a", "a")
			_, _, _, _, _ = d.Names(), d.Size(), d.Unsynced(), d.Up(), d.Starts()
		}
		for range n {
			refused()
			must(t, d.Append("b", ""))
		}
		refused()
		wantErr(t, d.Sync("b"), api.ErrDown)
	}
}

// P4.5: a disk that went down, by the failure or by a crash ahead of it, has none set any more.
func TestFailureIsOverWhenDown(t *testing.T) {
	for _, crash := range []bool{false, true} {
		for _, n := range []int{0, 2} {
			d := with(t, 20, laid{"a", "1", "2"})
			must(t, d.Fail(n, []int{9}))
			if crash {
				must(t, d.Crash([]int{1}))
			} else {
				for range n {
					must(t, d.Append("a", ""))
				}
				wantErr(t, d.Append("a", ""), api.ErrDown)
			}
			must(t, d.Start())
			for range 4 {
				must(t, d.Append("a", "+"))
				must(t, d.Sync("a"))
			}
			must(t, d.Append("a", "lost"))
			must(t, d.Crash(nil))
			must(t, d.Start())
			wantRead(t, d, "a", "12++++")
		}
	}
}

// P4.6: what was synced is there behind every crash; of each file a beginning of what it had.
func TestSyncedStays(t *testing.T) {
	all := "0123456789"
	for synced := range len(all) + 1 {
		for kept := -1; kept <= len(all)+1; kept++ {
			d := with(t, 30, laid{"f", all[:synced], all[synced:]})
			must(t, d.Crash([]int{kept}))
			must(t, d.Start())
			wantRead(t, d, "f", all[:min(len(all), synced+max(0, kept))])
		}
	}
}

// P4.6: renames, truncations and removals are sure at once, be the bytes synced or not.
func TestSureAtOnce(t *testing.T) {
	d := with(t, 100, laid{"a", "12", "3"}, laid{"b", "xyz", "uv"}, laid{"c", "pq", "r"}, laid{"d", "gone", ""}, laid{"e", "", "n"})
	must(t, d.Rename("a", "d"))
	must(t, d.Truncate("b", 2))
	must(t, d.Remove("c"))
	must(t, d.Rename("e", "f"))
	must(t, d.Crash(nil))
	must(t, d.Start())
	wantNames(t, d, "b", "d", "f")
	wantRead(t, d, "b", "xy")
	wantRead(t, d, "d", "12")
	wantRead(t, d, "f", "")
}

// P4.6: behind a crash all is synced, and another crash changes nothing.
func TestAnotherCrash(t *testing.T) {
	d := with(t, 30, laid{"a", "12", "345"}, laid{"b", "", "xyz"})
	must(t, d.Crash([]int{1, 2}))
	must(t, d.Start())
	wantUnsynced(t, d, 0, 0)
	for _, keep := range [][]int{nil, {0, 0}, {5, 5}, {-1}} {
		must(t, d.Crash(keep))
		must(t, d.Start())
		wantRead(t, d, "a", "123")
		wantRead(t, d, "b", "xy")
	}
}

// R4: lists that were handed out are memory of their own.
func TestListsAreOwn(t *testing.T) {
	d := with(t, 30, laid{"a", "12", "345"}, laid{"b", "", "xyz"})
	names, unsynced := d.Names(), d.Unsynced()
	names[0], unsynced[0] = "other", 99
	_, _ = append(names[:1], "more"), append(unsynced[:1], 7)
	wantNames(t, d, "a", "b")
	wantUnsynced(t, d, 3, 3)
	was, _ := d.Read("a")
	must(t, d.Truncate("a", 1))
	must(t, d.Append("a", "????"))
	if was != "12345" {
		t.Errorf("what was read became %q", was)
	}
}

// A great many small appends are done in no more than a moment.
func TestManyAppends(t *testing.T) {
	d := made(t, 1<<20)
	for range 1 << 20 {
		if err := d.Append("f", "x"); err != api.OK {
			t.Fatal(err)
		}
	}
	wantErr(t, d.Append("f", "x"), api.ErrFull)
	wantSize(t, d, 1<<20)
}
