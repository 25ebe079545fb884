package portable_test

import (
	"bytes"
	"math"
	"slices"
	"testing"

	"isinglass/api"
	"isinglass/portable"
	"isinglass/roaring"
)

// checkRead tells whether an image is read as the set of some parts, alone and with bytes ahead of it and behind.
func checkRead(t *testing.T, name string, b []byte, parts []part) {
	t.Helper()
	for _, around := range [][2]string{{"", ""}, {"\x3b", ""}, {"", "\x00"}, {"\x3a\x30\x00\x00\x00\x00\x00\x00", "\x3b\x30\x01"}} {
		at, end := len(around[0]), len(around[0])+len(b)
		s, next, e := portable.Read(slices.Concat([]byte(around[0]), b, []byte(around[1])), at)
		if e != api.OK || next != end {
			t.Fatalf("%s, %d bytes at %d: up to %d, the error %d", name, len(b), at, next, e)
		}
		checkSet(t, name, s, parts)
	}
}

// checkRefused tells whether nothing but an error is told of bytes.
func checkRefused(t *testing.T, name string, b []byte, at int, want api.Errno) {
	t.Helper()
	if s, next, e := portable.Read(b, at); s != nil || next != 0 || e != want {
		t.Fatalf("%s, %d bytes at %d: %d keys, up to %d, the error %d, not %d", name, len(b), at, len(s.Keys()), next, e, want)
	}
}

// P9.2: what is right.

func TestReadTellsTheExamples(t *testing.T) {
	for b, l := range examples() {
		checkRead(t, "an example", []byte(b), parted(l))
	}
}

func TestReadTellsWhatIsWritten(t *testing.T) {
	for _, l := range many() {
		checkRead(t, "what is written", portable.Write(roaring.Of(l)), parted(l))
	}
	for name, s := range none() {
		checkRead(t, name, portable.Write(s), nil)
	}
}

func TestReadTakesContainersToldAsAnyKind(t *testing.T) {
	for _, l := range many() {
		parts := parted(l)
		for _, asRuns := range []uint64{0, 1, 2, 4, 0xaaaaaaaaaaaaaaaa, 0x0f0f0f0f0f0f0f0f, math.MaxUint64} {
			b := imageOf(told(parts, asRuns)).bytes()
			checkRead(t, "an image", b, parts)
			s, _, _ := portable.Read(b, 0)
			checkWritten(t, "what was read", s, imageOf(parts).bytes())
		}
	}
}

func TestReadAtTheEdgesOfKinds(t *testing.T) {
	rows := [][]uint16{
		{0},
		{65535},
		{0, 65535},
		{65534, 65535},
		every[uint16](0, 4095, 1),
		every[uint16](0, 4096, 1),
		every[uint16](0, 4097, 1),
		every[uint16](0, 2*4096, 2),
		every[uint16](0, 2*4097, 2),
		every[uint16](0, 65535, 1),
		every[uint16](0, 65536, 1),
		every[uint16](0, 65536, 2), // 32768 runs
	}
	for _, lows := range rows {
		for _, key := range []uint16{0, 1, 65535} {
			for asRuns := range uint64(2) {
				parts := told([]part{{key: key, lows: lows}}, asRuns)
				checkRead(t, "one container", imageOf(parts).bytes(), parts)
			}
		}
	}
	parts := []part{{key: 0, lows: rows[10]}, {key: 2, lows: rows[8]}, {key: 3, lows: rows[7]}, {key: 65535, lows: rows[0]}}
	for asRuns := range uint64(16) {
		checkRead(t, "containers of many kinds", imageOf(told(parts, asRuns)).bytes(), parts)
	}
}

func TestReadOfAsManyContainersAsMayBe(t *testing.T) {
	var parts []part
	for key := range 65536 {
		parts = append(parts, part{key: uint16(key), lows: []uint16{uint16(key)}})
	}
	for _, asRuns := range []uint64{0, 4, math.MaxUint64} {
		checkRead(t, "very many containers", imageOf(told(parts, asRuns)).bytes(), parts)
	}
}

func TestImagesBehindOneAnotherAreReadOneByOne(t *testing.T) {
	var b []byte
	var places []int
	sets := many()
	for _, l := range sets {
		places = append(places, len(b))
		b = append(b, portable.Write(roaring.Of(l))...)
	}
	at := 0
	for i, l := range sets {
		if at != places[i] {
			t.Fatalf("the image %d is looked for at %d, not at %d", i, at, places[i])
		}
		s, next, e := portable.Read(b, at)
		if e != api.OK {
			t.Fatalf("the image %d: the error %d", i, e)
		}
		checkSet(t, "one of many images", s, parted(l))
		at = next
	}
	if at != len(b) {
		t.Errorf("the last image ends at %d, not at %d", at, len(b))
	}
}

// What is handed in is not read whole for each of its images: that would take some minutes here.
func TestVeryManyImagesBehindOneAnother(t *testing.T) {
	const images = 300000
	b := bytes.Repeat(portable.Write(roaring.Of([]uint32{1, 2})), images)
	n, at := 0, 0
	for at < len(b) {
		s, next, e := portable.Read(b, at)
		if e != api.OK || s.Len() != 2 {
			t.Fatalf("at %d: %d numbers, the error %d", at, s.Len(), e)
		}
		n, at = n+1, next
	}
	if n != images {
		t.Errorf("%d images, not %d", n, images)
	}
}

// P9.2: what is refused.

func TestReadRefusesPlacesThatAreNone(t *testing.T) {
	b := portable.Write(roaring.Of([]uint32{1, 2}))
	for _, of := range [][]byte{b, b[:9], {}, nil, {1}, make([]byte, 100)} {
		for _, at := range []int{math.MinInt, -8, -1, len(of) + 1, len(of) + 8, cap(of) + 1, math.MaxInt} {
			checkRefused(t, "a place that is none", of, at, api.ErrArg)
		}
		checkRefused(t, "the place behind all", of, len(of), api.ErrShort)
	}
}

// bases are right images of which others are made that are not, by their names: with offsets and without, of containers of each kind. The first container of each has no numbers in a row, and the second one has.
func bases() map[string][]part {
	apart, row := []uint16{1, 5, 9}, []uint16{10, 11, 12, 13, 14, 30}
	words := every[uint16](0, 2*5000, 2)
	return map[string][]part{
		"plain":        {{key: 3, lows: apart}, {key: 5, lows: row}},
		"plain words":  {{key: 0, lows: apart}, {key: 1, lows: row}, {key: 2, lows: words}, {key: 65535, lows: every[uint16](0, 4096, 1)}},
		"three":        {{key: 3, lows: apart}, {key: 5, lows: row, runs: true}, {key: 7, lows: apart}},
		"four":         {{key: 0, lows: apart}, {key: 5, lows: row, runs: true}, {key: 6, lows: apart}, {key: 65535, lows: []uint16{65535}, runs: true}},
		"three, words": {{key: 1, lows: apart}, {key: 2, lows: row, runs: true}, {key: 3, lows: words}},
		"nine":         append(told(parted(keyed(8, 0xaa)), 0xaa), part{key: 65535, lows: row, runs: true}),
	}
}

// cuts are places at which an image is cut off: each, or of a long image those near its parts' edges, and some more.
func (im image) cuts() []int {
	edges := []int{len(im.cookie), len(im.cookie) + len(im.header)}
	for i := range len(im.bodies) + 1 {
		edges = append(edges, im.place(i))
	}
	var l []int
	end := edges[len(edges)-1]
	for k := range end + 1 {
		near := slices.ContainsFunc(edges, func(edge int) bool { return k > edge-12 && k < edge+12 })
		if near || end < 300 || k%397 == 0 {
			l = append(l, k)
		}
	}
	return l
}

func TestReadRefusesImagesThatEndTooEarly(t *testing.T) {
	images := map[string]image{"none": imageOf(nil)}
	for name, parts := range bases() {
		images[name] = imageOf(parts)
	}
	for name, im := range images {
		b := im.bytes()
		for _, k := range im.cuts() {
			if k < len(b) { // what stands behind the cut is there, but it is not handed in
				checkRefused(t, name, b[:k], 0, api.ErrShort)
				checkRefused(t, name, append([]byte("ahead"), b[:k]...), 5, api.ErrShort)
			}
		}
	}
}

// fault is what makes an image wrong: which bytes it changes, and behind how many of the image's it is told.
type fault struct {
	name string
	make func(im *image)
	told func(im image) int
}

// faults are those that may be made of some parts.
func faults(parts []part) []fault {
	l := append(cookieFaults(parts), headerFaults(parts)...)
	l = append(l, offsetFaults(parts)...)
	for i := range parts {
		l = append(l, bodyFaults(parts[i], i)...)
	}
	return l
}

// cookieFaults are other cookies, counts that are too great, flags that may not be.
func cookieFaults(parts []part) []fault {
	var l []fault
	for _, n := range []uint32{0, 1, 12345, 12348, 12346 << 16, 12347 << 16, 12346 + 1<<16, 12346 + 1<<31, 0x303a3a30, 0x3a300000, math.MaxUint32} {
		l = append(l, fault{"another cookie", func(im *image) { copy(im.cookie, u32(nil, n)) }, func(image) int { return 4 }})
	}
	whole := func(im image) int { return len(im.cookie) }
	if !slices.ContainsFunc(parts, func(p part) bool { return p.runs }) {
		for _, n := range []uint32{65537, 65538, 1 << 24, 1 << 31, math.MaxUint32} {
			l = append(l, fault{"too many containers", func(im *image) { copy(im.cookie[4:], u32(nil, n)) }, whole})
		}
		return l
	}
	l = append(l, fault{"no container told as runs", func(im *image) { clear(im.cookie[4:]) }, whole})
	for bit := len(parts); bit%8 != 0; bit++ {
		l = append(l,
			fault{"a flag of no container", func(im *image) { im.cookie[4+bit/8] |= 1 << (bit % 8) }, whole},
			fault{"a flag of no container alone", func(im *image) { clear(im.cookie[4:]); im.cookie[4+bit/8] = 1 << (bit % 8) }, whole})
	}
	return l
}

// headerFaults are keys that do not rise.
func headerFaults(parts []part) []fault {
	var l []fault
	whole := func(im image) int { return len(im.cookie) + len(im.header) }
	for i := 1; i < len(parts); i++ {
		l = append(l,
			fault{"a key twice", func(im *image) { copy(im.header[4*i:], im.header[4*i-4:4*i-2]) }, whole},
			fault{"a key that falls to 0", func(im *image) { copy(im.header[4*i:], u16(nil, 0)) }, whole},
			fault{"a key that falls", func(im *image) { copy(im.header[4*i-4:], u16(nil, parts[i].key+1)) }, whole})
	}
	return l
}

// offsetFaults are offsets that are not where the containers begin, if there are any.
func offsetFaults(parts []part) []fault {
	var l []fault
	for i := range len(imageOf(parts).offsets) / 4 {
		ahead := func(im image) int { return im.place(i) }
		for _, more := range []uint32{1, math.MaxUint32, 2, 4, 8, 256, 1 << 16, 1 << 24, 1 << 31} {
			l = append(l, fault{"an offset", func(im *image) {
				copy(im.offsets[4*i:], u32(nil, uint32(im.place(i))+more))
			}, ahead})
		}
		l = append(l, fault{"an offset of 0", func(im *image) { clear(im.offsets[4*i : 4*i+4]) }, ahead})
	}
	return l
}

// bodyFaults are bytes of the i-th container that are not right, or are of other numbers than the header tells.
func bodyFaults(p part, i int) []fault {
	var l []fault
	whole := func(im image) int { return im.place(i + 1) }
	add := func(name string, lows int, body []byte) {
		l = append(l, fault{name, func(im *image) {
			copy(im.header[4*i+2:], u16(nil, uint16(lows-1)))
			im.bodies[i] = body
		}, whole})
	}
	n := len(p.lows)
	switch {
	case p.runs:
		for name, r := range wrongRuns() {
			add(name, max(r.numbers, 1), append(u16(nil, uint16(len(r.runs)/2)), u16(nil, r.runs...)...))
		}
		for _, other := range []int{n - 1, n + 1, n + 2, n + 256, 4096, 4097, 65536} {
			if other > 0 && other != n {
				add("runs of other numbers than told", other, body(p))
			}
		}
	case n > 4096:
		for _, other := range []int{n - 1, n + 1, 4097, 65536} {
			add("words of other numbers than told", other, body(p))
		}
		fewer, full := body(part{lows: p.lows[:4096], runs: true}), bytes.Repeat([]byte{255}, 8192)
		add("words of none", n, make([]byte, 8192))
		add("words of all", n, full)
		add("runs, not told as such", n, append(fewer, make([]byte, 8192)...)[:8192])
	default:
		for k := 1; k < n; k += 1 + n/50 {
			same, swapped := slices.Clone(p.lows), slices.Clone(p.lows)
			same[k] = same[k-1]
			swapped[k], swapped[k-1] = swapped[k-1], swapped[k]
			add("an array that has a number twice", n, u16(nil, same...))
			add("an array that falls", n, u16(nil, swapped...))
		}
	}
	return l
}

// wrongRun is runs that are not right, and how many numbers they seem to have.
type wrongRun struct {
	numbers int
	runs    []uint16
}

// wrongRuns are rows of runs that are not right, by their names.
func wrongRuns() map[string]wrongRun {
	return map[string]wrongRun{
		"no runs":                        {0, nil},
		"runs that touch":                {4, []uint16{10, 1, 12, 1}},
		"runs that touch at 0":           {2, []uint16{0, 0, 1, 0}},
		"runs that touch at 65535":       {2, []uint16{65534, 0, 65535, 0}},
		"runs that lie over each other":  {7, []uint16{10, 4, 13, 1}},
		"runs over each other, as a set": {5, []uint16{10, 4, 13, 1}},
		"a run twice":                    {2, []uint16{7, 0, 7, 0}},
		"runs that fall":                 {2, []uint16{7, 0, 3, 0}},
		"the last of three runs falls":   {3, []uint16{7, 0, 9, 0, 8, 0}},
		"a run beyond 65535":             {3, []uint16{65534, 2}},
		"a run beyond it, of what there": {2, []uint16{65534, 2}},
		"a run one beyond it":            {2, []uint16{65535, 1}},
		"a long run beyond it":           {65536, []uint16{1, 65535}},
		"a run beyond it that goes on":   {4, []uint16{65535, 1, 3, 1}},
	}
}

func TestReadRefusesImagesThatAreWrongAndOrTooShort(t *testing.T) {
	for name, parts := range bases() {
		for _, f := range faults(parts) {
			im := imageOf(parts)
			f.make(&im)
			b, from := im.bytes(), f.told(im)
			for _, k := range im.cuts() {
				want := api.ErrShort
				if k >= from {
					want = api.ErrForm
				}
				checkRefused(t, name+": "+f.name, b[:k], 0, want)
			}
			checkRefused(t, name+": "+f.name+", with bytes behind", append(b, make([]byte, 9000)...), 0, api.ErrForm)
		}
	}
}

func TestOffsetsAreThereJustWhereTheyAreToBe(t *testing.T) {
	for name, parts := range bases() {
		im := imageOf(parts)
		if len(im.offsets) == 0 { // put in: the containers' bytes are looked for in them
			at := uint32(len(im.ahead()) + 4*len(parts))
			for _, b := range im.bodies {
				im.offsets = u32(im.offsets, at)
				at += uint32(len(b))
			}
			checkRefused(t, name+", with offsets", append(im.bytes(), make([]byte, 1<<18)...), 0, api.ErrForm)
			continue
		}
		im.offsets = nil // left out: they are looked for in the containers' bytes
		checkRefused(t, name+", without offsets", append(im.bytes(), make([]byte, 1<<18)...), 0, api.ErrForm)
	}
}

func TestReadAtTheEdgesOfCounts(t *testing.T) {
	none := u32(nil, 12346, 0)
	checkRead(t, "a count of 0", none, nil)
	full := every[uint16](0, 65535, 1)
	var header []byte
	for _, key := range append(full, 65535) {
		header = u16(header, key, 0)
	}
	for _, k := range []int{0, 3, 4, 8, 4 * 65535, 4*65536 - 1} {
		checkRefused(t, "a count of 65536", append(u32(nil, 12346, 65536), header[:k]...), 0, api.ErrShort)
		checkRefused(t, "a count of 65536, with some as runs", slices.Concat(u16(nil, 12347, 65535), bytes.Repeat([]byte{1}, 8192), header[:k]), 0, api.ErrShort)
		checkRefused(t, "a count of 65537", append(u32(nil, 12346, 65537), header[:k]...), 0, api.ErrForm)
		checkRefused(t, "a count of 2^32 - 1", append(u32(nil, 12346, math.MaxUint32), header[:k]...), 0, api.ErrForm)
	}
	for _, n := range []uint16{32769, 65535} { // more runs than can be right: told once they are all there
		b := append(slices.Concat(u16(nil, 12347, 0), []byte{1}, u16(nil, 0, 9, n)), make([]byte, 4*int(n))...)
		checkRefused(t, "too many runs, too short", b[:13], 0, api.ErrShort)
		checkRefused(t, "too many runs, one byte too short", b[:len(b)-1], 0, api.ErrShort)
		checkRefused(t, "too many runs", b, 0, api.ErrForm)
	}
	checkRefused(t, "65536 keys without offsets", append(u32(nil, 12346, 65536), header...), 0, api.ErrShort)
	header[len(header)-4], header[len(header)-3] = 0, 0
	checkRefused(t, "65536 keys, of which the last one falls", append(u32(nil, 12346, 65536), header...), 0, api.ErrForm)
}

func TestBytesThatAreReadHaveOneForm(t *testing.T) {
	for name, parts := range bases() {
		b := imageOf(parts).bytes()
		step := 1 + len(b)/2000
		for i := 0; i < len(b); i += step {
			for _, with := range []byte{1, 2, 4, 8, 16, 32, 64, 128, 255, b[i]} {
				other := slices.Clone(b)
				other[i] ^= with
				checkOneForm(t, name, other)
			}
		}
	}
}

// checkOneForm tells whether bytes, if they are read as a set, are its image in which just those containers are told as runs that their flags name.
func checkOneForm(t *testing.T, name string, b []byte) {
	t.Helper()
	s, next, e := portable.Read(b, 0)
	if e != api.OK {
		checkRefused(t, name, b, 0, e)
		return
	}
	parts := told(parted(slices.Collect(s.All())), 0)
	for i := range parts {
		parts[i].runs = b[0] == 0x3b && b[4+i/8]>>(i%8)&1 == 1
	}
	if want := imageOf(parts).bytes(); !bytes.Equal(b[:next], want) {
		t.Fatalf("%s: %d bytes are read that are not the set's image, % x first, not % x", name, next, b[:min(next, 40)], want[:min(len(want), 40)])
	}
}

func TestReadEndsOfAnyBytes(t *testing.T) {
	seed := uint64(1)
	for range 20000 {
		b := []byte{0x3a, 0x30, 0, 0, 2, 0, 0, 0}
		for len(b) < 60 {
			seed = seed*6364136223846793005 + 1442695040888963407
			b = append(b, byte(seed>>40)&byte(seed>>48))
		}
		if seed>>60&1 == 1 {
			copy(b, []byte{0x3b, 0x30, byte(seed >> 61), 0})
		}
		checkOneForm(t, "some bytes", b)
		portable.Read(b, int(seed>>33)%80-10)
	}
}

// The bytes stay, and what is told has memory of its own.

func TestReadLeavesTheBytesAndTellsMemoryOfItsOwn(t *testing.T) {
	for name, parts := range bases() {
		b := imageOf(parts).bytes()
		whole := append(slices.Clone(b), 1, 2, 3)
		was := slices.Clone(whole)
		s, _, e := portable.Read(whole[:len(b)], 0)
		also, _, _ := portable.Read(whole, 0)
		if e != api.OK || !bytes.Equal(whole, was) {
			t.Fatalf("%s: the error %d, or the bytes were changed", name, e)
		}
		spoil(whole)
		checkSet(t, name+", whose bytes were changed", s, parts)
		s.AddRange(0, 1<<20)
		checkSet(t, name+", read twice", also, parts)
	}
	for name, parts := range bases() {
		for _, f := range faults(parts) {
			im := imageOf(parts)
			f.make(&im)
			b := im.bytes()
			was := slices.Clone(b)
			if portable.Read(b, 0); !bytes.Equal(b, was) {
				t.Fatalf("%s: %s: bytes that were refused were changed", name, f.name)
			}
		}
	}
}
