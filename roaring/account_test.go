package roaring_test

import (
	"math"
	"slices"
	"testing"

	"isinglass/api"
	"isinglass/container"
	"isinglass/roaring"
)

const (
	top  = 1<<32 - 1 // the greatest number
	size = api.Container
)

// set is a set told number by number: of each key that it has numbers of, or had, which lower halves are there. It needs no containers.
type set map[uint16]*[size]bool

// setOf is the set of some numbers.
func setOf(l ...uint32) set {
	s := set{}
	for _, x := range l {
		s.put(x)
	}
	return s
}

// put puts a number in.
func (s set) put(x uint32) {
	key := uint16(x >> 16)
	if s[key] == nil {
		s[key] = new([size]bool)
	}
	s[key][x&0xffff] = true
}

// has is whether x is there.
func (s set) has(x uint32) bool {
	lows := s[uint16(x>>16)]
	return lows != nil && lows[x&0xffff]
}

// list is the numbers that s has, rising.
func (s set) list() []uint32 {
	var keys []uint16
	for key := range s {
		keys = append(keys, key)
	}
	slices.Sort(keys)
	var l []uint32
	for _, key := range keys {
		for low, there := range s[key] {
			if there {
				l = append(l, uint32(key)<<16|uint32(low))
			}
		}
	}
	return l
}

// paired is what a pair's call is to tell of a and b.
func paired(a, b set, takes func(inA, inB bool) bool) set {
	var none [size]bool
	s := set{}
	for _, of := range []set{a, b} {
		for key := range of {
			if s[key] != nil { // both have it
				continue
			}
			inA, inB := &none, &none
			if a[key] != nil {
				inA = a[key]
			}
			if b[key] != nil {
				inB = b[key]
			}
			lows := new([size]bool)
			for low := range lows {
				lows[low] = takes(inA[low], inB[low])
			}
			s[key] = lows
		}
	}
	return s
}

// part is what a directory has of a key: the key, the kind of its container, and its numbers' lower halves.
type part struct {
	key  uint16
	kind uint8
	lows []uint16
}

// directory is by the chapters' words the directory of some numbers that rise.
func directory(l []uint32) []part {
	var d []part
	for _, x := range l {
		if key := uint16(x >> 16); len(d) == 0 || d[len(d)-1].key != key {
			d = append(d, part{key: key})
		}
		last := &d[len(d)-1]
		last.lows = append(last.lows, uint16(x))
	}
	for i := range d {
		d[i].kind = kind(d[i].lows)
	}
	return d
}

// kind is by layer 7's words the canonical kind of some numbers that rise.
func kind(lows []uint16) uint8 {
	c, r := len(lows), 0
	for i, x := range lows {
		if i == 0 || x != lows[i-1]+1 {
			r++
		}
	}
	switch {
	case c <= 4096 && 2+4*r < 2*c, c > 4096 && 2+4*r < 8192:
		return api.Runs
	case c <= 4096:
		return api.Arrays
	default:
		return api.Words
	}
}

// spans is the rows, as long as may be, of some numbers that rise.
func spans(l []uint32) []api.Span {
	var told []api.Span
	for _, x := range l {
		if n := len(told); n > 0 && told[n-1].Hi == uint64(x) {
			told[n-1].Hi++
		} else {
			told = append(told, api.Span{Lo: uint64(x), Hi: uint64(x) + 1})
		}
	}
	return told
}

// every is every step-th number, from the first one on, below the end.
func every(from, to, step uint64) []uint32 {
	var l []uint32
	for x := from; x < to; x += step {
		l = append(l, uint32(x))
	}
	return l
}

// mixed is some n numbers here and there of a few keys, by a short rule, rising.
func mixed(n int, seed uint64) []uint32 {
	keys := [...]uint32{0, 1, 2, 7, 65535}
	l := make([]uint32, n)
	for i := range l {
		seed = seed*6364136223846793005 + 1442695040888963407
		l[i] = keys[seed>>32%5]<<16 | uint32(seed>>40)&0xffff
	}
	slices.Sort(l)
	return slices.Compact(l)
}

// many are numbers of many sets, rising: of none, of few, at the edges of keys and of all, of each kind, over more than one key.
func many() [][]uint32 {
	return [][]uint32{
		nil,
		{0},
		{1},
		{top},
		{0, top},
		{1, 5, 9},
		{65535, 65536},
		{65534, 65535, 65536, 65537},
		{0, 1, 2, 3, 131072, 131074},
		{65536, 65537, 65538, 65539, top - 3, top - 2, top - 1, top},
		every(0, size, 1),
		every(size, 2*size, 1),
		every(top+1-size, top+1, 1),
		every(60000, 140000, 1),
		every(0, 3*size, 2),
		every(1, 3*size, 2),
		every(size, size+2*4096, 2),
		every(size, size+2*4097, 2),
		slices.Concat(every(0, 2*4097, 2), every(size, size+2*4096, 2), every(2*size+5, 2*size+3000, 1)),
		slices.Concat(every(5, 3000, 1), every(size, size+2*4097, 2), every(2*size, 2*size+2*4096, 2), every(7*size, 7*size+10, 3)),
		mixed(40, 1),
		mixed(9000, 2),
		mixed(60000, 3),
	}
}

// check tells whether a set has just some numbers, that rise, by all that it is asked, and the directory that they ask for.
func check(t *testing.T, name string, s *roaring.Set, l []uint32) {
	t.Helper()
	checkDirectory(t, name, s, l)
	if n := s.Len(); n != len(l) {
		t.Errorf("%s: Len is %d, not %d", name, n, len(l))
	}
	if all := slices.Collect(s.All()); !slices.Equal(all, l) {
		t.Errorf("%s: All is %d numbers that are not its %d, %v first, not %v", name, len(all), len(l), some(all), some(l))
	}
	if r := s.Runs(); !slices.Equal(r, spans(l)) {
		t.Errorf("%s: Runs is %d spans that are not its %d, %v first, not %v", name, len(r), len(spans(l)), some(r), some(spans(l)))
	}
}

// checkDirectory tells whether a set has the directory of some numbers that rise.
func checkDirectory(t *testing.T, name string, s *roaring.Set, l []uint32) {
	t.Helper()
	d := directory(l)
	keys := s.Keys()
	if len(keys) != len(d) {
		t.Fatalf("%s: %d keys, %v first, not %d", name, len(keys), some(keys), len(d))
	}
	for i, p := range d {
		if keys[i] != p.key {
			t.Errorf("%s: the key %d is %d, not %d", name, i, keys[i], p.key)
		}
		c, there := s.At(i)
		if !there || c.Kind() != p.kind || !slices.Equal(c.Array(), p.lows) {
			t.Errorf("%s: At(%d) is %v, %d numbers of the kind %d, %v first, not %d of the kind %d, %v first", name, i, there, c.Len(), c.Kind(), some(c.Array()), len(p.lows), p.kind, some(p.lows))
		}
	}
	for _, i := range []int{math.MinInt, -1, len(d), len(d) + 1, math.MaxInt} {
		if c, there := s.At(i); there || c.Len() != 0 {
			t.Errorf("%s: At(%d) of %d keys is %v, %d numbers", name, i, len(d), there, c.Len())
		}
	}
}

// checkAll tells whether a set is of all numbers.
func checkAll(t *testing.T, name string, s *roaring.Set) {
	t.Helper()
	if s.Len() != 1<<32 || len(s.Keys()) != size || !slices.Equal(s.Runs(), []api.Span{{Hi: 1 << 32}}) {
		t.Fatalf("%s: %d numbers of %d keys, in %d spans", name, s.Len(), len(s.Keys()), len(s.Runs()))
	}
	for i, key := range s.Keys() {
		if c, there := s.At(i); int(key) != i || !there || c.Kind() != api.Runs || c.Len() != size {
			t.Fatalf("%s: the key %d is %d: %v, %d numbers of the kind %d", name, i, key, there, c.Len(), c.Kind())
		}
	}
}

// some are so many of a row as are shown.
func some[T any](l []T) []T { return l[:min(len(l), 6)] }

// reversed is a row from its end on.
func reversed[T any](l []T) []T {
	l = slices.Clone(l)
	slices.Reverse(l)
	return l
}

// spoil changes all that stands in a row, and in the room behind it.
func spoil[T any](l []T, with T) {
	l = l[:cap(l)]
	for i := range l {
		l[i] = with
	}
}

// array is the container of the kind Arrays of some numbers that rise.
func array(lows ...uint16) container.Container {
	c, ok := container.OfArray(lows)
	if !ok {
		panic("the test's row is no array")
	}
	return c
}

// asWords is a container's set of the kind Words.
func asWords(c container.Container) container.Container {
	w, _ := container.OfWords(c.Words())
	return w
}

// asRuns is a container's set of the kind Runs.
func asRuns(c container.Container) container.Container {
	r, _ := container.OfRuns(c.Runs())
	return r
}

// each is a container's set of each kind.
func each(c container.Container) []container.Container {
	return []container.Container{array(c.Array()...), asWords(c), asRuns(c)}
}

// none are the sets of no numbers, by their names.
func none() map[string]*roaring.Set {
	s := roaring.Of([]uint32{5, 70000})
	return map[string]*roaring.Set{"one that is not there": nil, "a zero one": {}, "a new one": roaring.New(), "one of which all is gone": s.AndNot(s)}
}

// places are those that are asked for beside a set's own: edges of keys and of all, and such as no number has.
func places() []uint64 {
	return []uint64{0, 1, 2, 3, 65534, 65535, 65536, 65537, 65538, 131071, 131072, 200000, 1 << 31, top - 1, top, top + 1, top + 2, 1 << 33, 1<<33 + 1, 1 << 40, 1 << 63, math.MaxUint64}
}
