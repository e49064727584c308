package records

import "archipelago/marks"

// reader goes through the marks of a text, one behind the other. Where none stands it has failed, and tells 0: so whether
// all stood there is asked but once, in the end.
type reader struct {
	s      string
	at     int
	failed bool
}

// next tells so many numbers.
func (m *reader) next(count int) []int {
	l := make([]int, count)
	for i := range l {
		n, behind, ok := marks.Get(m.s, m.at)
		if !ok {
			m.failed = true
			break
		}
		l[i], m.at = n, behind
	}
	return l
}

// putAll puts how many things the list has, and lets each of them be put.
func putAll[T any](l []T, put func(l ...int), putOne func(x T)) {
	put(len(l))
	for _, x := range l {
		putOne(x)
	}
}

// getAll gets how many things follow, and lets each of them be got. More than most can be in no record: so they are
// none, and cost no memory.
func getAll[T any](m *reader, most int, getOne func() T) []T {
	count := m.next(1)[0]
	if count < 0 || count > most {
		m.failed = true
		return nil
	}
	var l []T
	for range count {
		l = append(l, getOne())
	}
	return l
}
