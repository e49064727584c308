// Package marks is layer 1: ints, texts and lists of ints as bytes, in as few as may be. See shared/doc/01-marks.md.
package marks

import "strings"

const (
	groupBits  = 7                           // of a fold, in each byte of its mark
	moreFollow = 1 << groupBits              // added to each byte of a mark but the last one
	groupMask  = moreFollow - 1              // the bits of a byte that are its group
	foldBits   = 64                          // of a fold, and of an int
	fullGroups = foldBits / groupBits        // groups all of whose bits a fold has
	maxGroups  = fullGroups + 1              // of a mark: the last one has the fold's topmost bits
	topGroup   = 1<<(foldBits%groupBits) - 1 // the greatest group that may stand behind the full ones
)

// Put is the int's mark.
func Put(n int) string {
	return string(appendInt(nil, n))
}

// Get tells the int whose mark stands at that place, and the place behind it.
func Get(s string, at int) (n, next int, ok bool) {
	if at < 0 || at > len(s) {
		return 0, 0, false
	}
	folded, size, ok := groups(s[at:])
	if !ok {
		return 0, 0, false
	}
	return unfold(folded), at + size, true
}

// PutText is the text's mark.
func PutText(t string) string {
	return Put(len(t)) + t
}

// GetText tells the text whose mark stands at that place, and the place behind it.
func GetText(s string, at int) (t string, next int, ok bool) {
	length, from, ok := getCount(s, at)
	if !ok {
		return "", 0, false
	}
	next = from + length
	return strings.Clone(s[from:next]), next, true
}

// PutAll is the list's mark.
func PutAll(l []int) string {
	b := appendInt(nil, len(l))
	for i := range len(l) {
		b = appendInt(b, l[i])
	}
	return string(b)
}

// GetAll tells the list whose mark stands at that place, and the place behind it.
func GetAll(s string, at int) (l []int, next int, ok bool) {
	count, next, ok := getCount(s, at)
	if !ok {
		return nil, 0, false
	}
	l = make([]int, count)
	for i := range count {
		l[i], next, ok = Get(s, next)
		if !ok {
			return nil, 0, false
		}
	}
	return l, next, true
}

// getCount is Get of how many bytes or marks follow. No more than there are bytes left can follow, as each mark has
// one at least: so a count beyond the text is none, and costs no memory.
func getCount(s string, at int) (count, next int, ok bool) {
	count, next, ok = Get(s, at)
	if !ok || count < 0 || count > len(s)-next {
		return 0, 0, false
	}
	return count, next, true
}

// fold takes the sign from the top to the lowest bit, so that ints near 0 on either side have few groups.
func fold(n int) uint64 {
	sign := n >> (foldBits - 1) // all ones below 0: this shift keeps the sign
	return uint64(n)<<1 ^ uint64(sign)
}

// unfold is the int that has that fold.
func unfold(folded uint64) int {
	sign := -(folded & 1)
	return int(folded>>1 ^ sign)
}

// appendInt puts the int's mark behind the bytes.
func appendInt(b []byte, n int) []byte {
	rest := fold(n)
	for rest >= moreFollow {
		b = append(b, byte(rest)|moreFollow)
		rest >>= groupBits
	}
	return append(b, byte(rest))
}

// groups reads the mark with which the text begins: what it is the mark of, folded, and how many bytes it has.
func groups(s string) (folded uint64, size int, ok bool) {
	for i := range min(len(s), maxGroups) {
		group := s[i] & groupMask
		folded |= uint64(group) << (groupBits * i)
		if s[i] >= moreFollow {
			continue
		}
		if !mayBeLast(group, i) {
			return 0, 0, false
		}
		return folded, i + 1, true
	}
	return 0, 0, false
}

// mayBeLast tells whether a mark may end with that group at that place: it is not 0 but where it is the only one, as
// the mark would have a byte less, and behind the full groups it has no bit that an int has not.
func mayBeLast(group byte, place int) bool {
	return (group != 0 || place == 0) && (group <= topGroup || place < fullGroups)
}
