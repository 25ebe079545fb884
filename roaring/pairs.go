package roaring

import (
	"slices"

	"isinglass/api"
	"isinglass/container"
)

// And is the numbers of both.
func (s *Set) And(o *Set) *Set {
	return pair{both: container.Container.And}.of(s, o)
}

// Or is the numbers of either.
func (s *Set) Or(o *Set) *Set {
	return pair{both: container.Container.Or, first: true, second: true}.of(s, o)
}

// AndNot is the numbers of s that are not in o.
func (s *Set) AndNot(o *Set) *Set {
	return pair{both: container.Container.AndNot, first: true}.of(s, o)
}

// Xor is the numbers of just one.
func (s *Set) Xor(o *Set) *Set {
	return pair{both: container.Container.Xor, first: true, second: true}.of(s, o)
}

// Not is the numbers below n and 2^32 that are not in s.
func (s *Set) Not(n uint64) *Set { return Spans([]api.Span{{Hi: n}}).AndNot(s) }

// Same is whether both have the same numbers.
func (s *Set) Same(o *Set) bool { return slices.EqualFunc(s.entries(), o.entries(), entry.same) }

// same is whether both are of the same numbers.
func (e entry) same(o entry) bool { return e.key == o.key && e.lows.Xor(o.lows).Len() == 0 }

// pair is a call of two sets: what it tells of two containers of one key, and whether a container stays whose key the first set, or the second one, has alone.
type pair struct {
	both          func(c, o container.Container) container.Container
	first, second bool
}

// of goes through two directories side by side, and tells the set of what p tells of their containers.
func (p pair) of(s, o *Set) *Set {
	told := New()
	a, b := s.entries(), o.entries()
	for len(a) > 0 || len(b) > 0 {
		switch {
		case len(b) == 0 || len(a) > 0 && a[0].key < b[0].key:
			told.putIf(p.first, a[0])
			a = a[1:]
		case len(a) == 0 || b[0].key < a[0].key:
			told.putIf(p.second, b[0])
			b = b[1:]
		default:
			told.put(a[0].key, p.both(a[0].lows, b[0].lows))
			a, b = a[1:], b[1:]
		}
	}
	return told
}

// putIf lays an entry of another set behind all others, if it stays: the two sets may share its container, since containers do not change.
func (s *Set) putIf(stays bool, e entry) {
	if stays {
		s.directory = append(s.directory, e)
	}
}
