package wal

import (
	"slices"
	"strconv"
)

const (
	draft     = "t"       // the name of a file that is not yet a c file
	maxNumber = 999999999 // of a file: it has nine digits
)

// layout is which files a log has.
type layout struct {
	base  int      // the number of the c file; 0, if there is none
	top   int      // that of the last segment; the base, if there is none
	stale []string // the names of those that are of no use, in the order in which they were told
}

// survey tells the layout by the names of all files. It is false, if one of them is no file of a log, or an s file lies
// behind a gap: the layout is that of the others then.
func survey(names []string) (l layout, ok bool) {
	ok = true
	for _, name := range names {
		if letter, number := split(name); letter == "c" {
			l.base = max(l.base, number)
		}
	}
	var ahead []int // the numbers of s files above the base
	for _, name := range names {
		switch letter, number := split(name); letter {
		case "s":
			if number > l.base {
				ahead = append(ahead, number)
			} else {
				l.stale = append(l.stale, name)
			}
		case "c":
			if number < l.base {
				l.stale = append(l.stale, name)
			}
		case draft:
			l.stale = append(l.stale, name)
		default:
			ok = false
		}
	}
	l.top = l.base
	slices.Sort(ahead) // by names 10 is ahead of 9
	for _, number := range ahead {
		if number != l.top+1 {
			return l, false
		}
		l.top = number
	}
	return l, ok
}

// open tells whether there is a last segment.
func (l layout) open() bool {
	return l.top > l.base
}

// last is the name of the last segment; if there is none, a name that no segment has.
func (l layout) last() string {
	return sName(l.top)
}

// segments are the names of all segments, in order.
func (l layout) segments() []string {
	var names []string
	if l.base > 0 {
		names = append(names, cName(l.base))
	}
	for number := l.base + 1; number <= l.top; number++ {
		names = append(names, sName(number))
	}
	return names
}

// split tells the letter of a file's name and the number behind it (0 behind a t); no letter, if no file of a log has
// that name.
func split(name string) (letter string, number int) {
	if name == "" {
		return "", 0
	}
	letter, digits := name[:1], name[1:]
	switch letter {
	case "c", "s":
		n, _ := strconv.Atoi(digits)
		if n >= 1 && n <= maxNumber && strconv.Itoa(n) == digits { // Atoi takes a sign, too, and zeros ahead
			return letter, n
		}
	case draft:
		if digits == "" {
			return letter, 0
		}
	}
	return "", 0
}

func cName(number int) string { return "c" + strconv.Itoa(number) }

func sName(number int) string { return "s" + strconv.Itoa(number) }
