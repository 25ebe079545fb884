package roaring

import (
	"cmp"
	"slices"

	"isinglass/api"
	"isinglass/container"
)

// high is the upper half of a number: its key.
func high(x uint32) uint16 { return uint16(x / api.Container) }

// low is the lower half of a number.
func low(x uint32) uint16 { return uint16(x % api.Container) }

// number is that of two halves.
func number(key, low uint16) uint32 { return uint32(key)*api.Container + uint32(low) }

// byKey goes through a row whose keys rise, and hands over part by part what is of one key.
func byKey[T any](l []T, key func(T) uint16, lay func(key uint16, part []T)) {
	for len(l) > 0 {
		first := key(l[0])
		n := slices.IndexFunc(l, func(x T) bool { return key(x) != first })
		if n < 0 {
			n = len(l)
		}
		lay(first, l[:n])
		l = l[n:]
	}
}

// rising is some numbers in order, each once.
func rising(l []uint32) []uint32 {
	l = slices.Clone(l)
	slices.Sort(l)
	return slices.Compact(l)
}

// ofNumbers is the canonical container of the lower halves of numbers that rise and have one key.
func ofNumbers(l []uint32) container.Container {
	a := make([]uint16, len(l))
	for i, x := range l {
		a[i] = low(x)
	}
	c, _ := container.OfArray(a)
	return c.Canonical()
}

// joined is the spans of all numbers below 2^32 of some spans, in any order: they rise, and none touches the next one.
func joined(l []api.Span) []api.Span {
	l = slices.Clone(l)
	slices.SortFunc(l, func(a, b api.Span) int { return cmp.Compare(a.Lo, b.Lo) })
	var told []api.Span
	for _, span := range l {
		span.Hi = min(span.Hi, bound)
		if span.Lo < span.Hi {
			told = withSpan(told, span)
		}
	}
	return told
}

// withSpan is l with a span that does not begin ahead of the last one, and makes that longer, if it touches it.
func withSpan(l []api.Span, next api.Span) []api.Span {
	if n := len(l); n > 0 && next.Lo <= l[n-1].Hi {
		l[n-1].Hi = max(l[n-1].Hi, next.Hi)
		return l
	}
	return append(l, next)
}

// pieces is spans, cut where a key ends.
func pieces(l []api.Span) []api.Span {
	var told []api.Span
	for _, span := range l {
		for lo := span.Lo; lo < span.Hi; {
			hi := min(span.Hi, lo-lo%api.Container+api.Container)
			told = append(told, api.Span{Lo: lo, Hi: hi})
			lo = hi
		}
	}
	return told
}

// spanKey is the key of a piece.
func spanKey(piece api.Span) uint16 { return high(uint32(piece.Lo)) }

// ofPieces is the canonical container of the lower halves of pieces that rise, do not touch, and have one key.
func ofPieces(l []api.Span) container.Container {
	r := make([]api.Run, len(l))
	for i, piece := range l {
		r[i] = api.Run{First: low(uint32(piece.Lo)), More: uint16(piece.Hi - piece.Lo - 1)}
	}
	c, _ := container.OfRuns(r)
	return c.Canonical()
}
