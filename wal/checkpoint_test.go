package wal

import (
	"fmt"
	"slices"
	"strings"
	"testing"

	"archipelago/api"
	"archipelago/disk"
)

// P5.4: a checkpoint's number is one above the greatest of all segments, and the log has just its payloads then.
func TestCheckpoint(t *testing.T) {
	for _, x := range []struct {
		files []laid
		want  string
	}{
		{nil, "c1"},
		{[]laid{{"s1", frameOf("a")}}, "c2"},
		{[]laid{{"s1", frameOf("a")}, {"s2", frameOf("b")}, {"s3", ""}}, "c4"},
		{[]laid{{"c1", frameOf("a")}}, "c2"},
		{[]laid{{"c9", frameOf("a")}}, "c10"},
		{[]laid{{"c9", frameOf("a")}, {"s10", frameOf("b")}}, "c11"},
		{[]laid{{"c98", frameOf("a")}, {"s99", frameOf("b")}, {"s100", frameOf("c")}}, "c101"},
	} {
		for _, l := range [][]string{nil, {}, {""}, {"x"}, {"x", "", "y"}, listTo(20000), {strings.Repeat("z", 8192)}} {
			d := with(t, roomy, x.files...)
			w, _, err := Open(d)
			must(t, err)
			must(t, w.Checkpoint(l))
			wantNames(t, d, x.want)
			wantBytes(t, d, x.want, framesOf(l...))
			wantUnsynced(t, d, 0)
			wantTold(t, w, 1, len(framesOf(l...)))
			wantOpen(t, d, l...)
		}
	}
}

// P5.4: one checkpoint behind another, and appends between them.
func TestCheckpoints(t *testing.T) {
	d := with(t, roomy)
	w := wantOpen(t, d)
	for i := range 12 {
		must(t, w.Checkpoint([]string{fmt.Sprint(i)}))
		wantNames(t, d, fmt.Sprint("c", i+1))
		wantOpen(t, d, fmt.Sprint(i))
	}
	must(t, w.Append([]string{"a"}))
	must(t, w.Checkpoint(nil))
	wantNames(t, d, "c14")
	must(t, w.Append([]string{"b"}))
	must(t, w.Append([]string{"c"}))
	wantNames(t, d, "c14", "s15")
	wantOpen(t, d, "b", "c")
	must(t, w.Checkpoint([]string{"d"}))
	wantNames(t, d, "c16")
	wantOpen(t, d, "d")
}

// P5.4: the changes, one by one: the append of all frames to t, its sync, its renaming, and the removals by names.
func TestChangesOfCheckpoint(t *testing.T) {
	text := framesOf("x", "y")
	old := []laid{{"c8", frameOf("a")}, {"s10", frameOf("c")}, {"s11", frameOf("d")}, {"s9", frameOf("b")}}
	before := []string{"a", "b", "c", "d"}
	after := []string{"x", "y"}
	for _, x := range []struct {
		n, keep int
		names   []string
		t, c    string
		open    []string
	}{
		{0, 0, []string{"c8", "s10", "s11", "s9", "t"}, "", "", before},
		{0, 7, []string{"c8", "s10", "s11", "s9", "t"}, text[:7], "", before},
		{0, 12, []string{"c8", "s10", "s11", "s9", "t"}, text, "", before},
		{1, 0, []string{"c8", "s10", "s11", "s9", "t"}, "", "", before},
		{1, 7, []string{"c8", "s10", "s11", "s9", "t"}, text[:7], "", before},
		{2, 0, []string{"c8", "s10", "s11", "s9", "t"}, text, "", before},
		{3, 0, []string{"c12", "c8", "s10", "s11", "s9"}, "", text, after},
		{4, 0, []string{"c12", "s10", "s11", "s9"}, "", text, after},
		{5, 0, []string{"c12", "s11", "s9"}, "", text, after},
		{6, 0, []string{"c12", "s9"}, "", text, after},
	} {
		d := with(t, roomy, old...)
		w := wantOpen(t, d, before...)
		must(t, d.Fail(x.n, []int{0, 0, 0, 0, x.keep}))
		wantErr(t, w.Checkpoint(after), api.ErrDown)
		must(t, d.Start())
		wantNames(t, d, x.names...)
		if slices.Contains(x.names, "t") {
			wantBytes(t, d, "t", x.t)
		} else {
			wantBytes(t, d, "c12", x.c)
		}
		wantTold(t, w, 0, 0)
		wantOpen(t, d, x.open...)
	}
	d := with(t, roomy, old...)
	w := wantOpen(t, d, before...)
	wantChanges(t, d, 7, func() api.Errno { return w.Checkpoint(after) })
}

// P5.4: what was appended and never synced is gone with the log's old files.
func TestCheckpointOfUnsynced(t *testing.T) {
	d := with(t, roomy)
	w := wantOpen(t, d)
	must(t, w.Append([]string{"a", "b"}))
	must(t, w.Checkpoint([]string{"c"}))
	must(t, d.Crash(nil))
	must(t, d.Start())
	wantOpen(t, d, "c")
}

// P5.4: a disk without room for the file t: all is as it was, and the Wal goes on. What the old files have is room for
// nobody, as they are there yet.
func TestNoRoomForCheckpoint(t *testing.T) {
	d := with(t, 30)
	w := wantOpen(t, d)
	must(t, w.Append([]string{"a", "b"}))
	must(t, w.Sync())
	must(t, w.Append([]string{"c"}))
	wantSame(t, d, api.ErrFull, func() api.Errno { return w.Checkpoint([]string{"x", "yz"}) })
	wantNames(t, d, "s1")
	wantTold(t, w, 1, 18)
	wantOpen(t, d, "a", "b", "c")
	must(t, w.Checkpoint([]string{"x", "y"}))
	wantOpen(t, d, "x", "y")
	must(t, w.Append([]string{"z"}))
	wantOpen(t, d, "x", "y", "z")
	d = with(t, 6, laid{"s1", frameOf("a")})
	w = wantOpen(t, d, "a")
	wantSame(t, d, api.ErrFull, func() api.Errno { return w.Checkpoint([]string{""}) })
	must(t, w.Checkpoint(nil))
	wantNames(t, d, "c2")
	wantOpen(t, d)
}

// P5.2, P5.4: what the caller does to his lists later on, and to those that he was told, changes nothing.
func TestListsOfTheCaller(t *testing.T) {
	d := with(t, roomy)
	w := wantOpen(t, d)
	in := []string{"a", "b"}
	must(t, w.Append(in))
	in[0], in[1] = "q", "q"
	_, out, err := Open(d)
	must(t, err)
	out[0], out[1] = "r", "r"
	wantOpen(t, d, "a", "b")
	must(t, w.Sync())
	in = []string{"c", "d", "e"}
	must(t, w.Checkpoint(in))
	in[0], in[2] = "q", "q"
	wantOpen(t, d, "c", "d", "e")
	if !slices.Equal(in, []string{"q", "d", "q"}) || !slices.Equal(out, []string{"r", "r"}) {
		t.Errorf("lists are %q, %q", in, out)
	}
	more := make([]string, 2, 5)
	more[0], more[1] = "f", "g"
	must(t, w.Append(more))
	must(t, w.Checkpoint(more))
	if l := more[:5]; !slices.Equal(l, []string{"f", "g", "", "", ""}) {
		t.Errorf("the list is %q", l)
	}
}

// P5.1: two Wals of one disk know what the other one did.
func TestTwoWals(t *testing.T) {
	d := with(t, roomy)
	v, w := wantOpen(t, d), wantOpen(t, d)
	must(t, v.Append([]string{"a"}))
	must(t, w.Append([]string{"b"}))
	wantTold(t, v, 1, 12)
	must(t, v.Checkpoint([]string{"c"}))
	must(t, w.Append([]string{"d"}))
	wantNames(t, d, "c2", "s3")
	wantTold(t, v, 2, 12)
	must(t, w.Checkpoint([]string{"e"}))
	must(t, v.Append([]string{"f"}))
	must(t, v.Sync())
	wantUnsynced(t, d, 0, 0)
	wantOpen(t, d, "e", "f")
}

// callsOf are all calls that answer an error, each with arguments at which it would be OK, and at which it would not.
func callsOf(w *Wal) map[string]func() api.Errno {
	long := []string{strings.Repeat("x", 8193)}
	return map[string]func() api.Errno{
		"Append":             func() api.Errno { return w.Append([]string{"a"}) },
		"Append of nothing":  func() api.Errno { return w.Append(nil) },
		"Append, too long":   func() api.Errno { return w.Append(long) },
		"Sync":               func() api.Errno { return w.Sync() },
		"Checkpoint":         func() api.Errno { return w.Checkpoint([]string{"a"}) },
		"Checkpoint of none": func() api.Errno { return w.Checkpoint(nil) },
		"Checkpoint, long":   func() api.Errno { return w.Checkpoint(long) },
	}
}

// wantAll wants of each call that error, and no change of the disk, if there is one.
func wantAll(t *testing.T, d *disk.Disk, w *Wal, want api.Errno) {
	t.Helper()
	for what, call := range callsOf(w) {
		before := image(d)
		if err := call(); err != want {
			t.Errorf("%s = %d, want %d", what, err, want)
		}
		if image(d) != before {
			t.Errorf("%s changed the disk", what)
		}
	}
	wantTold(t, w, 0, 0)
}

// A Wal that is nil, and one that Open did not make: ErrNil ahead of all else, and 0.
func TestNoWal(t *testing.T) {
	wantAll(t, nil, nil, api.ErrNil)
	wantAll(t, nil, &Wal{}, api.ErrNil)
	wantAll(t, nil, new(Wal), api.ErrNil)
}

// P5.1: a disk that is none has no log; one that is down tells so, also where it has none.
func TestNoDisk(t *testing.T) {
	wantNoOpen(t, nil, api.ErrNil)
	wantNoOpen(t, &disk.Disk{}, api.ErrNil)
	for _, files := range [][]laid{nil, {{"q", ""}}, {{"s2", ""}}, {{"c1", "?"}}, {{"s1", frameOf("a")}, {"t", "?"}}} {
		d := with(t, 1000, files...)
		must(t, d.Crash(nil))
		wantNoOpen(t, d, api.ErrDown)
	}
}

// A Wal is over when its disk is down, and when it was started since; a new one is not.
func TestOverByCrash(t *testing.T) {
	d := with(t, roomy, laid{"c1", frameOf("a")}, laid{"s2", frameOf("b")})
	w := wantOpen(t, d, "a", "b")
	wantTold(t, w, 2, 12)
	must(t, d.Crash(nil))
	wantAll(t, d, w, api.ErrDown)
	must(t, d.Start())
	wantAll(t, d, w, api.ErrDown)
	must(t, wantOpen(t, d, "a", "b").Append([]string{"c"}))
	wantAll(t, d, w, api.ErrDown)
	must(t, d.Crash(nil))
	must(t, d.Start())
	w = wantOpen(t, d, "a", "b")
	must(t, w.Append([]string{"d"}))
	wantTold(t, w, 2, 18)
}

// A Wal is over when its disk told it an error but ErrFull, also if nothing else tells of that: the disk is put back
// here, by value, as it was ahead of its failure, never having been started.
func TestOverByError(t *testing.T) {
	for what := range callsOf(nil) {
		if what == "Append of nothing" || strings.Contains(what, "long") {
			continue
		}
		d := with(t, roomy, laid{"c1", frameOf("a")}, laid{"s2", frameOf("b")})
		w := wantOpen(t, d, "a", "b")
		held := *d
		must(t, d.Fail(0, nil))
		if err := callsOf(w)[what](); err != api.ErrDown {
			t.Errorf("%s of a disk that fails = %d, want ErrDown", what, err)
		}
		*d = held
		if !d.Up() || d.Starts() != 0 {
			t.Fatal("the disk is not what it was")
		}
		wantAll(t, d, w, api.ErrDown)
	}
}

// ErrLong and ErrFull leave a Wal as it was.
func TestNotOver(t *testing.T) {
	d := with(t, 20)
	w := wantOpen(t, d)
	must(t, w.Append([]string{"a", "b"}))
	wantErr(t, w.Append([]string{"cdefg"}), api.ErrFull)
	wantErr(t, w.Append([]string{strings.Repeat("c", 8193)}), api.ErrLong)
	wantErr(t, w.Checkpoint([]string{"cdefg"}), api.ErrFull)
	wantErr(t, w.Checkpoint([]string{strings.Repeat("c", 8193)}), api.ErrLong)
	wantTold(t, w, 1, 12)
	must(t, w.Sync())
	must(t, w.Append([]string{"c"}))
	wantOpen(t, d, "a", "b", "c")
}

// Where two errors hold at once, the one that is named first is told: ErrNil and ErrDown are told of by callsOf, with
// payloads that are too long; ErrLong is ahead of ErrFull.
func TestTwoErrors(t *testing.T) {
	d := with(t, roomy, laid{"c999999999", ""})
	w := wantOpen(t, d)
	long := []string{"a", strings.Repeat("x", 8193)}
	wantSame(t, d, api.ErrLong, func() api.Errno { return w.Append(long) })
	wantSame(t, d, api.ErrLong, func() api.Errno { return w.Checkpoint(long) })
	d = with(t, 1)
	w = wantOpen(t, d)
	wantSame(t, d, api.ErrLong, func() api.Errno { return w.Append(long) })
	wantSame(t, d, api.ErrLong, func() api.Errno { return w.Checkpoint(long) })
	d = with(t, roomy, fullRow(15, true)...)
	w, _, err := Open(d)
	must(t, err)
	wantSame(t, d, api.ErrLong, func() api.Errno { return w.Append(long) })
}
