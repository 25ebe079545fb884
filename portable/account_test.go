package portable_test

import (
	"encoding/binary"
	"slices"
	"testing"

	"isinglass/api"
	"isinglass/roaring"
)

// top is the greatest number.
const top = 1<<32 - 1

// part is a container, as an image tells it: its key, its numbers, that rise, and whether it is told as runs.
type part struct {
	key  uint16
	lows []uint16
	runs bool
}

// image is the parts of an image, as bytes.
type image struct {
	cookie, header, offsets []byte
	bodies                  [][]byte
}

// imageOf is by the chapter's words the image of some parts.
func imageOf(parts []part) image {
	im := image{cookie: cookie(parts)}
	for _, p := range parts {
		im.header = u16(im.header, p.key, uint16(len(p.lows)-1))
		im.bodies = append(im.bodies, body(p))
	}
	if !slices.ContainsFunc(parts, func(p part) bool { return p.runs }) || len(parts) >= 4 {
		at := len(im.cookie) + len(im.header) + 4*len(parts)
		for _, b := range im.bodies {
			im.offsets = u32(im.offsets, uint32(at))
			at += len(b)
		}
	}
	return im
}

// cookie is the cookie of some parts.
func cookie(parts []part) []byte {
	flags, some := make([]byte, (len(parts)+7)/8), false
	for i, p := range parts {
		if p.runs {
			flags[i/8] |= 1 << (i % 8)
			some = true
		}
	}
	if some {
		return append(u16(nil, 12347, uint16(len(parts)-1)), flags...)
	}
	return u32(nil, 12346, uint32(len(parts)))
}

// body is the bytes of a container.
func body(p part) []byte {
	var b []byte
	switch {
	case p.runs:
		r := runs(p.lows)
		b = u16(b, uint16(len(r)))
		for _, run := range r {
			b = u16(b, run[0], run[1])
		}
	case len(p.lows) <= 4096:
		b = u16(b, p.lows...)
	default:
		b = make([]byte, 8192)
		for _, x := range p.lows { // a word's lowest byte is the first one
			b[x/8] |= 1 << (x % 8)
		}
	}
	return b
}

// runs is the rows as long as may be of numbers that rise: of each the first one, and how many more there are.
func runs(lows []uint16) [][2]uint16 {
	var r [][2]uint16
	for i, x := range lows {
		if i > 0 && x == lows[i-1]+1 {
			r[len(r)-1][1]++
		} else {
			r = append(r, [2]uint16{x})
		}
	}
	return r
}

// u16 puts numbers in 16 bits behind b.
func u16(b []byte, l ...uint16) []byte {
	for _, n := range l {
		b = binary.LittleEndian.AppendUint16(b, n)
	}
	return b
}

// u32 puts numbers in 32 bits behind b.
func u32(b []byte, l ...uint32) []byte {
	for _, n := range l {
		b = binary.LittleEndian.AppendUint32(b, n)
	}
	return b
}

// bytes is the whole image.
func (im image) bytes() []byte { return slices.Concat(im.ahead(), slices.Concat(im.bodies...)) }

// ahead is all ahead of the containers' bytes.
func (im image) ahead() []byte { return slices.Concat(im.cookie, im.header, im.offsets) }

// place is where the i-th container's bytes begin; behind the last one's, where the image ends.
func (im image) place(i int) int { return len(im.ahead()) + len(slices.Concat(im.bodies[:i]...)) }

// parted is by layer 7's words the parts of numbers that rise: told as runs are just those whose canonical kind that is.
func parted(l []uint32) []part {
	var parts []part
	for _, x := range l {
		if key := uint16(x >> 16); len(parts) == 0 || parts[len(parts)-1].key != key {
			parts = append(parts, part{key: key})
		}
		last := &parts[len(parts)-1]
		last.lows = append(last.lows, uint16(x))
	}
	for i := range parts {
		parts[i].runs = kind(parts[i].lows) == api.Runs
	}
	return parts
}

// kind is by layer 7's words the canonical kind of numbers that rise.
func kind(lows []uint16) uint8 {
	c, r := len(lows), len(runs(lows))
	switch {
	case c <= 4096 && 2+4*r < 2*c, c > 4096 && 2+4*r < 8192:
		return api.Runs
	case c <= 4096:
		return api.Arrays
	default:
		return api.Words
	}
}

// numbers is the numbers of some parts, rising.
func numbers(parts []part) []uint32 {
	var l []uint32
	for _, p := range parts {
		for _, x := range p.lows {
			l = append(l, uint32(p.key)<<16|uint32(x))
		}
	}
	return l
}

// told is some parts, of which the i-th one is told as runs, if the bit i mod 64 of that word is 1.
func told(parts []part, asRuns uint64) []part {
	parts = slices.Clone(parts)
	for i := range parts {
		parts[i].runs = asRuns>>(i%64)&1 == 1
	}
	return parts
}

// every is every step-th number, from the first one on, below the end.
func every[T uint16 | uint32](from, to, step int) []T {
	var l []T
	for x := from; x < to; x += step {
		l = append(l, T(x))
	}
	return l
}

// mixed is some n numbers here and there of a few keys, by a short rule, rising.
func mixed(n int, seed uint64) []uint32 {
	keys := [...]uint32{0, 1, 2, 7, 65535}
	l := make([]uint32, n)
	for i := range l {
		seed = seed*6364136223846793005 + 1442695040888963407
		l[i] = keys[seed>>32%5]<<16 | uint32(seed>>40)&0xffff
	}
	slices.Sort(l)
	return slices.Compact(l)
}

// keyed are numbers of n keys, rising: of the keys whose bits are 1 those from 10 on, below 20; of the others 1 5 9.
func keyed(n int, rows uint64) []uint32 {
	var l []uint32
	for i := range n {
		for x := range 20 {
			if inRow := rows>>(i%64)&1 == 1; inRow && x >= 10 || !inRow && x < 10 && x%4 == 1 {
				l = append(l, uint32(7*i)<<16|uint32(x))
			}
		}
	}
	return l
}

// many are numbers of many sets, rising: of few numbers, at the edges of keys, of each kind, of numbers of containers at which the image has other parts, of none, some and all of them in rows.
func many() [][]uint32 {
	const size = api.Container
	l := [][]uint32{
		nil,
		{0},
		{1, 2},
		{top},
		{0, top},
		{65535, 65536},
		every[uint32](0, 10, 1),
		every[uint32](0, 4096, 1),
		every[uint32](0, 4097, 1),
		every[uint32](0, 2*4096, 2),
		every[uint32](0, 2*4097, 2),
		every[uint32](0, size, 1),
		every[uint32](0, size, 2),
		every[uint32](top+1-size, top+1, 1),
		every[uint32](top+1-size, top+1, 3),
		every[uint32](60000, 140000, 1),
		every[uint32](0, 5*size, 2),
		append(every[uint32](0, 2*2046, 2), every[uint32](5000, 7000, 1)...), // 2047 runs
		append(every[uint32](0, 2*2047, 2), every[uint32](5000, 7049, 1)...), // 2048
		mixed(40, 1),
		mixed(9000, 2),
		mixed(60000, 3),
	}
	for _, n := range []int{1, 2, 3, 4, 5, 7, 8, 9, 15, 16, 17, 64, 65} {
		for _, rows := range []uint64{0, 1, 1 << 63, 0x5555555555555555, 0xf0f0f0f0f0f0f0f0, 1<<64 - 1} {
			l = append(l, keyed(n, rows))
		}
	}
	return l
}

// none are sets of no numbers, by their names.
func none() map[string]*roaring.Set {
	s := roaring.Of([]uint32{5, 70000})
	return map[string]*roaring.Set{"one that is not there": nil, "a zero one": {}, "a new one": roaring.New(), "one of which all is gone": s.AndNot(s)}
}

// checkSet tells whether a set has just the numbers of some parts, in the directory that they ask for.
func checkSet(t *testing.T, name string, s *roaring.Set, parts []part) {
	t.Helper()
	if s == nil {
		t.Fatalf("%s: the set is not there", name)
	}
	keys := s.Keys()
	if len(keys) != len(parts) {
		t.Fatalf("%s: %d keys, not %d", name, len(keys), len(parts))
	}
	for i, p := range parts {
		c, _ := s.At(i)
		if keys[i] != p.key || c.Kind() != kind(p.lows) || !slices.Equal(c.Array(), p.lows) {
			t.Fatalf("%s: the container %d has the key %d, and %d numbers of the kind %d, not the key %d, and %d of the kind %d", name, i, keys[i], c.Len(), c.Kind(), p.key, len(p.lows), kind(p.lows))
		}
	}
}

// spoil changes all that stands in some bytes, and in the room behind them.
func spoil(b []byte) {
	b = b[:cap(b)]
	for i := range b {
		b[i] ^= 255
	}
}
