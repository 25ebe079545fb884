package roaring_test

import (
	"math"
	"slices"
	"testing"

	"isinglass/api"
	"isinglass/container"
	"isinglass/roaring"
)

// The chapter's examples.

func TestTheExamples(t *testing.T) {
	s := roaring.New()
	s.AddRange(65535, 65538)
	if keys := s.Keys(); !slices.Equal(keys, []uint16{0, 1}) {
		t.Errorf("Keys is %v, not 0 1", keys)
	}
	if n := s.Rank(65537); n != 2 {
		t.Errorf("Rank(65537) is %d, not 2", n)
	}
	check(t, "Not(4) of 5 1", roaring.Of([]uint32{5, 1}).Not(4), []uint32{0, 2, 3})
}

// P8.1

func TestNewIsOfNone(t *testing.T) {
	s := roaring.New()
	check(t, "New", s, nil)
	if s == nil {
		t.Fatal("New is a set that is not there")
	}
	s.Add(7)
	check(t, "another New", roaring.New(), nil)
}

func TestOfTakesNumbersInAnyOrderAndTwice(t *testing.T) {
	cases := []struct{ l, want []uint32 }{
		{nil, nil},
		{[]uint32{}, nil},
		{[]uint32{0}, []uint32{0}},
		{[]uint32{top}, []uint32{top}},
		{[]uint32{5, 1}, []uint32{1, 5}},
		{[]uint32{9, 9, 9}, []uint32{9}},
		{[]uint32{1, 2, 2, 1, 3, 1}, []uint32{1, 2, 3}},
		{[]uint32{65536, 65535, 65536, 65535}, []uint32{65535, 65536}},
		{[]uint32{top, 0, 1 << 31, top, 65536, 0}, []uint32{0, 65536, 1 << 31, top}},
		{[]uint32{70000, 3, 140000, 4, 70001, 5}, []uint32{3, 4, 5, 70000, 70001, 140000}},
		{[]uint32{4, 3, 2, 1}, []uint32{1, 2, 3, 4}},
	}
	for _, c := range cases {
		check(t, "Of", roaring.Of(c.l), c.want)
	}
	for _, l := range many() {
		check(t, "Of what rises", roaring.Of(l), l)
		check(t, "Of what falls", roaring.Of(reversed(l)), l)
		check(t, "Of what is told twice", roaring.Of(slices.Concat(l, reversed(l))), l)
	}
}

func TestSpansTakesSpansInAnyOrder(t *testing.T) {
	cases := []struct {
		l, want []api.Span
	}{
		{nil, nil},
		{[]api.Span{}, nil},
		{[]api.Span{{Lo: 1, Hi: 4}}, []api.Span{{Lo: 1, Hi: 4}}},
		{[]api.Span{{Lo: 5, Hi: 7}, {Lo: 1, Hi: 3}}, []api.Span{{Lo: 1, Hi: 3}, {Lo: 5, Hi: 7}}},
		{[]api.Span{{Lo: 3, Hi: 5}, {Lo: 1, Hi: 3}}, []api.Span{{Lo: 1, Hi: 5}}},                                                                // they touch
		{[]api.Span{{Lo: 1, Hi: 3}, {Lo: 3, Hi: 5}, {Lo: 5, Hi: 6}}, []api.Span{{Lo: 1, Hi: 6}}},                                                // one behind the other
		{[]api.Span{{Lo: 1, Hi: 5}, {Lo: 3, Hi: 9}}, []api.Span{{Lo: 1, Hi: 9}}},                                                                // over each other
		{[]api.Span{{Lo: 1, Hi: 9}, {Lo: 3, Hi: 5}, {Lo: 10, Hi: 11}}, []api.Span{{Lo: 1, Hi: 9}, {Lo: 10, Hi: 11}}},                            // within another one
		{[]api.Span{{Lo: 1, Hi: 9}, {Lo: 1, Hi: 3}, {Lo: 1, Hi: 20}}, []api.Span{{Lo: 1, Hi: 20}}},                                              // of one beginning
		{[]api.Span{{Lo: 2, Hi: 4}, {Lo: 2, Hi: 4}}, []api.Span{{Lo: 2, Hi: 4}}},                                                                // twice
		{[]api.Span{{Lo: 4, Hi: 4}, {Lo: 9, Hi: 8}, {Lo: math.MaxUint64}}, nil},                                                                 // of none
		{[]api.Span{{Lo: 4, Hi: 4}, {Lo: 2, Hi: 3}, {Lo: 5, Hi: 1}}, []api.Span{{Lo: 2, Hi: 3}}},                                                // of none, and one
		{[]api.Span{{Lo: 1, Hi: 3}, {Lo: 3, Hi: 3}, {Lo: 4, Hi: 5}}, []api.Span{{Lo: 1, Hi: 3}, {Lo: 4, Hi: 5}}},                                // none between two
		{[]api.Span{{Lo: top, Hi: top + 1}}, []api.Span{{Lo: top, Hi: top + 1}}},                                                                // it ends at 2^32
		{[]api.Span{{Lo: top - 1, Hi: top + 2}}, []api.Span{{Lo: top - 1, Hi: top + 1}}},                                                        // beyond it
		{[]api.Span{{Lo: top, Hi: math.MaxUint64}, {Lo: top - 5, Hi: top - 3}}, []api.Span{{Lo: top - 5, Hi: top - 3}, {Lo: top, Hi: top + 1}}}, // far beyond it
		{[]api.Span{{Lo: top + 1, Hi: top + 2}, {Lo: top + 2, Hi: math.MaxUint64}, {Lo: 1 << 33, Hi: 1<<33 + 5}}, nil},                          // they begin there
		{[]api.Span{{Lo: 65535, Hi: 65537}}, []api.Span{{Lo: 65535, Hi: 65537}}},
		{[]api.Span{{Lo: 65536, Hi: 65537}, {Lo: 65535, Hi: 65536}}, []api.Span{{Lo: 65535, Hi: 65537}}}, // they touch where keys do
		{[]api.Span{{Lo: 65536, Hi: 131072}}, []api.Span{{Lo: 65536, Hi: 131072}}},
		{[]api.Span{{Lo: 10, Hi: 200000}, {Lo: 5, Hi: 6}}, []api.Span{{Lo: 5, Hi: 6}, {Lo: 10, Hi: 200000}}},
	}
	for _, c := range cases {
		s := roaring.Spans(c.l)
		var l []uint32
		for _, span := range c.want {
			l = append(l, every(span.Lo, span.Hi, 1)...)
		}
		check(t, "Spans", s, l)
		if r := s.Runs(); !slices.Equal(r, c.want) {
			t.Errorf("Spans of %v has the spans %v, not %v", c.l, r, c.want)
		}
	}
	for _, l := range many() {
		check(t, "Spans of its spans", roaring.Spans(spans(l)), l)
		check(t, "Spans of its spans, falling", roaring.Spans(reversed(spans(l))), l)
		check(t, "Spans of its spans, twice", roaring.Spans(slices.Concat(spans(l), spans(l))), l)
		check(t, "Spans of its numbers", roaring.Spans(singles(reversed(l))), l)
	}
}

// singles are the spans of single numbers.
func singles(l []uint32) []api.Span {
	var told []api.Span
	for _, x := range l {
		told = append(told, api.Span{Lo: uint64(x), Hi: uint64(x) + 1})
	}
	return told
}

func TestSpansOfAll(t *testing.T) {
	checkAll(t, "one span", roaring.Spans([]api.Span{{Lo: 0, Hi: 1 << 32}}))
	checkAll(t, "beyond", roaring.Spans([]api.Span{{Lo: 0, Hi: math.MaxUint64}}))
	checkAll(t, "two", roaring.Spans([]api.Span{{Lo: 1 << 31, Hi: 1 << 40}, {Lo: 0, Hi: 1 << 31}, {Lo: 1 << 32, Hi: 1 << 41}}))
}

func TestJoinRefusesWhatIsNoDirectory(t *testing.T) {
	one, two, zero := array(1), array(1, 2), container.Container{}
	cases := []struct {
		name string
		keys []uint16
		l    []container.Container
	}{
		{"a key twice", []uint16{3, 3}, []container.Container{one, two}},
		{"the key 0 twice", []uint16{0, 0}, []container.Container{one, one}},
		{"keys that fall", []uint16{3, 2}, []container.Container{one, two}},
		{"keys that fall at the end", []uint16{1, 2, 65535, 0}, []container.Container{one, two, one, two}},
		{"keys that fall from the greatest one", []uint16{65535, 0}, []container.Container{one, two}},
		{"more keys than containers", []uint16{1, 2, 3}, []container.Container{one, two}},
		{"a key and no container", []uint16{1}, nil},
		{"fewer keys than containers", []uint16{1}, []container.Container{one, two}},
		{"a container and no key", nil, []container.Container{one}},
		{"a zero container", []uint16{1}, []container.Container{zero}},
		{"an empty one first", []uint16{1, 2}, []container.Container{array(), two}},
		{"an empty one last", []uint16{1, 2}, []container.Container{two, zero}},
		{"an empty one of words", []uint16{1, 2}, []container.Container{one, asWords(zero)}},
		{"an empty one of runs", []uint16{1, 2}, []container.Container{asRuns(zero), two}},
		{"one of which nothing is left", []uint16{1, 2, 3}, []container.Container{one, two.AndNot(two), one}},
	}
	for _, c := range cases {
		if s, e := roaring.Join(c.keys, c.l); s != nil || e != api.ErrArg {
			t.Errorf("Join of %s: %v, the error %d, not ErrArg", c.name, s, e)
		}
	}
}

func TestJoinTakesContainersOfAnyKind(t *testing.T) {
	s, e := roaring.Join(nil, nil)
	if s == nil || e != api.OK {
		t.Fatalf("Join of none: %v, the error %d", s, e)
	}
	check(t, "Join of none", s, nil)
	s, e = roaring.Join([]uint16{}, []container.Container{})
	if s == nil || e != api.OK {
		t.Fatalf("Join of no items: %v, the error %d", s, e)
	}
	for _, l := range many() {
		var keys []uint16
		var rows [3][]container.Container // of each kind, canonical or not
		for _, p := range directory(l) {
			keys = append(keys, p.key)
			for kind, c := range each(array(p.lows...)) {
				rows[kind] = append(rows[kind], c)
			}
		}
		for kind, row := range rows {
			s, e := roaring.Join(keys, row)
			if e != api.OK {
				t.Fatalf("Join of %d keys, of the kind %d: the error %d", len(keys), kind+1, e)
			}
			check(t, "Join", s, l)
		}
	}
}

func TestJoinMakesEachContainerCanonical(t *testing.T) {
	lows := make([]uint16, 4097) // more than an array's
	for i := range lows {
		lows[i] = uint16(2 * i)
	}
	s, e := roaring.Join([]uint16{0, 2, 9, 65535}, []container.Container{asWords(array(1, 2, 3)), array(1, 2, 3, 4), asRuns(array(7)), array(lows...)})
	if e != api.OK {
		t.Fatalf("Join: the error %d", e)
	}
	for i, kind := range []uint8{api.Arrays, api.Runs, api.Arrays, api.Words} {
		if c, there := s.At(i); !there || c.Kind() != kind {
			t.Errorf("the container %d is of the kind %d, not %d", i, c.Kind(), kind)
		}
	}
}

// What follows: however a set was made, its directory is the same.

func TestHoweverASetIsMadeItsDirectoryIsTheSame(t *testing.T) {
	all := roaring.New().Not(1 << 32)
	for i, l := range many() {
		first := roaring.Of(l)
		for name, s := range waysOf(l, all) {
			check(t, name, s, l)
			if !s.Same(first) || !first.Same(s) {
				t.Errorf("the set %d, made by %s, is not the same as by Of", i, name)
			}
		}
	}
}

// waysOf are sets of some numbers that rise, made in different ways, of the set of all among it, by their names.
func waysOf(l []uint32, all *roaring.Set) map[string]*roaring.Set {
	whole, first, rest := roaring.Of(l), roaring.Of(l[:len(l)/3]), roaring.Of(l[len(l)/3:])
	wide := roaring.Spans([]api.Span{{Lo: 60000, Hi: 150000}})
	others := roaring.Of([]uint32{77, 1 << 20, 1<<20 + 5}).AndNot(whole)
	return map[string]*roaring.Set{
		"Add":                added(l),
		"AddRange":           ranges(spans(l)),
		"Or":                 first.Or(rest),
		"Or of itself":       whole.Or(whole),
		"Or of parts":        first.Or(whole),
		"Xor":                rest.Xor(first),
		"Xor twice":          whole.Xor(wide).Xor(wide),
		"And of itself":      whole.And(whole),
		"And with all":       whole.And(all),
		"AndNot of others":   whole.Or(others).AndNot(others),
		"AndNot of the rest": all.AndNot(all.AndNot(whole)),
		"Not twice":          whole.Not(1 << 32).Not(1 << 32),
		"Copy":               whole.Copy(),
		"Spans of its runs":  roaring.Spans(whole.Runs()),
		"Of what All tells":  roaring.Of(slices.Collect(whole.All())),
	}
}

// added is the set of some numbers that rise, of which the first ones are put in one by one, the last of them first.
func added(l []uint32) *roaring.Set {
	n := min(len(l), 9000)
	s := roaring.Of(l[n:])
	for _, x := range reversed(l[:n]) {
		s.Add(x)
	}
	return s
}

// ranges is the set of some spans that rise, of which the first ones are put in one by one, the last of them first.
func ranges(l []api.Span) *roaring.Set {
	n := min(len(l), 300)
	s := roaring.Spans(l[n:])
	for _, span := range reversed(l[:n]) {
		s.AddRange(span.Lo, span.Hi)
	}
	return s
}

// P8.2

func TestAddPutsANumberIn(t *testing.T) {
	numbers := []uint32{70000, 5, top, 5, 0, 65536, 65535, 70001, 140000, top - 1, top, 0, 1 << 31, 69999, 1, 70000}
	for _, s := range []*roaring.Set{roaring.New(), {}} {
		want := set{}
		for _, x := range numbers {
			s.Add(x)
			want.put(x)
			check(t, "after Add", s, want.list())
		}
	}
}

func TestAddAtTheEdgesOfKinds(t *testing.T) {
	s, l := roaring.New(), []uint32(nil)
	for _, x := range every(size, size+2*4098, 2) { // an array, till it has more than 4096
		s.Add(x)
		l = append(l, x)
		if len(l) > 4090 || len(l) < 10 {
			checkDirectory(t, "every second number", s, l)
		}
	}
	s, l = roaring.New(), nil
	for _, x := range every(65530, 65540, 1) { // arrays, that turn into runs
		s.Add(x)
		l = append(l, x)
		check(t, "numbers in a row", s, l)
	}
	s = roaring.Of(every(0, 2*size, 2))
	s.AddRange(1, 2*size-1)
	s.Add(2*size - 1)
	check(t, "two whole keys", s, every(0, 2*size, 1))
}

func TestAddRangePutsNumbersIn(t *testing.T) {
	cases := []struct {
		l      []uint32
		lo, hi uint64
		want   []uint32
	}{
		{nil, 1, 3, []uint32{1, 2}},
		{nil, 0, 1, []uint32{0}},
		{nil, 5, 5, nil}, // none
		{nil, 0, 0, nil},
		{nil, 6, 5, nil},
		{nil, math.MaxUint64, 0, nil},
		{[]uint32{1, 70000}, 5, 5, []uint32{1, 70000}},
		{[]uint32{1, 70000}, 9, 2, []uint32{1, 70000}},
		{nil, 65535, 65538, []uint32{65535, 65536, 65537}}, // over two keys
		{[]uint32{0, 65536, 1 << 20}, 65534, 65540, []uint32{0, 65534, 65535, 65536, 65537, 65538, 65539, 1 << 20}},
		{[]uint32{65537, 300000}, 60000, 200000, append(every(60000, 200000, 1), 300000)}, // over more of them
		{every(0, 400000, 3), 65536, 262144, slices.Concat(every(0, 65536, 3), every(65536, 262144, 1), every(262146, 400000, 3))},
		{nil, top, top + 1, []uint32{top}}, // up to 2^32
		{[]uint32{7}, top - 2, top + 1, []uint32{7, top - 2, top - 1, top}},
		{[]uint32{7}, top - 1, top + 2, []uint32{7, top - 1, top}}, // above it
		{[]uint32{7}, top - 1, math.MaxUint64, []uint32{7, top - 1, top}},
		{[]uint32{7}, top + 1, top + 5, []uint32{7}}, // from there on
		{[]uint32{7}, 1 << 33, math.MaxUint64, []uint32{7}},
		{[]uint32{7}, 1<<33 + 1, 1<<33 + 9, []uint32{7}},
		{[]uint32{7}, math.MaxUint64, math.MaxUint64, []uint32{7}},
		{[]uint32{2, 3, 4}, 0, 9, every(0, 9, 1)},
		{every(0, 100, 1), 20, 30, every(0, 100, 1)}, // they are there
	}
	for _, c := range cases {
		s := roaring.Of(c.l)
		s.AddRange(c.lo, c.hi)
		check(t, "AddRange", s, c.want)
	}
	var s roaring.Set
	s.AddRange(3, 5)
	check(t, "AddRange of a zero set", &s, []uint32{3, 4})
}

func TestAddRangeOfAll(t *testing.T) {
	s := roaring.New()
	s.AddRange(0, 1<<32)
	checkAll(t, "up to 2^32", s)
	s = roaring.Of([]uint32{5, 70000, top})
	s.AddRange(0, math.MaxUint64)
	checkAll(t, "above it", s)
	s.Add(12345)
	checkAll(t, "with one more", s)
}

func TestHasIsWhetherANumberIsThere(t *testing.T) {
	for i, l := range many() {
		s, want := roaring.Of(l), setOf(l...)
		for _, x := range l {
			if !s.Has(x) {
				t.Fatalf("the set %d has %d, but Has is false", i, x)
			}
		}
		for _, near := range []uint32{1, 2, 65535, 65536, 65537, 1 << 31} {
			for _, x := range l {
				if s.Has(x+near) != want.has(x+near) || s.Has(x-near) != want.has(x-near) {
					t.Fatalf("the set %d: Has of %d or %d is not as told", i, x+near, x-near)
				}
			}
		}
		for _, x := range places() {
			if s.Has(uint32(x)) != want.has(uint32(x)) {
				t.Errorf("the set %d: Has of %d is %v", i, uint32(x), s.Has(uint32(x)))
			}
		}
	}
}

func TestRankCountsWhatIsBelow(t *testing.T) {
	for i, l := range many() {
		s := roaring.Of(l)
		asked := places()
		for k := 0; k < len(l); k += 1 + len(l)/50 {
			asked = append(asked, uint64(l[k]), uint64(l[k])+1, uint64(l[k])+65536, uint64(l[k])+1<<32)
		}
		for _, x := range asked {
			want := len(l)
			if x <= top {
				want, _ = slices.BinarySearch(l, uint32(x))
			}
			if n := s.Rank(x); n != want {
				t.Errorf("the set %d: Rank(%d) is %d, not %d", i, x, n, want)
			}
		}
	}
}

func TestRankTellsWhatItIsTold(t *testing.T) {
	s := roaring.Of([]uint32{1, 5, 9, 65535, 65536, 131073, top})
	cases := []struct {
		x    uint64
		want int
	}{{0, 0}, {1, 0}, {2, 1}, {5, 1}, {6, 2}, {65535, 3}, {65536, 4}, {65537, 5}, {131072, 5}, {131073, 5}, {131074, 6}, {top, 6}, {top + 1, 7}, {top + 2, 7}, {1<<32 + 6, 7}, {1 << 63, 7}, {math.MaxUint64, 7}}
	for _, c := range cases {
		if n := s.Rank(c.x); n != c.want {
			t.Errorf("Rank(%d) is %d, not %d", c.x, n, c.want)
		}
	}
}

func TestSelectTellsEachNumber(t *testing.T) {
	for i, l := range many() {
		s := roaring.Of(l)
		for k := 0; k < len(l); k += 1 + len(l)/300 {
			checkSelect(t, s, k, l[k])
		}
		if len(l) > 0 {
			checkSelect(t, s, 0, l[0])
			checkSelect(t, s, len(l)-1, l[len(l)-1])
		}
		for _, k := range []int{math.MinInt, math.MinInt + 1, math.MinInt + 5, -65536, -1, len(l), len(l) + 1, len(l) + 65536, 1 << 32, math.MaxInt} {
			if x, there := s.Select(k); x != 0 || there {
				t.Errorf("the set %d of %d numbers: Select(%d) is %d, %v", i, len(l), k, x, there)
			}
		}
	}
}

// checkSelect tells whether Select of k is that number, of which k are below it.
func checkSelect(t *testing.T, s *roaring.Set, k int, want uint32) {
	t.Helper()
	x, there := s.Select(k)
	if x != want || !there {
		t.Errorf("Select(%d) is %d, %v, not %d", k, x, there, want)
	}
	if s.Rank(uint64(x)) != k || !s.Has(x) {
		t.Errorf("Select(%d) is %d, of which %d are below it, and Has of it is %v", k, x, s.Rank(uint64(x)), s.Has(x))
	}
}

func TestAllNumbersAreAsked(t *testing.T) {
	s := roaring.New().Not(1 << 32)
	checkSelect(t, s, 0, 0)
	checkSelect(t, s, 65536, 65536)
	checkSelect(t, s, top, top)
	if x, there := s.Select(1 << 32); x != 0 || there {
		t.Errorf("Select(2^32) of all is %d, %v", x, there)
	}
	if !s.Has(0) || !s.Has(top) || s.Rank(0) != 0 || s.Rank(top) != top || s.Rank(1<<32) != 1<<32 || s.Rank(math.MaxUint64) != 1<<32 {
		t.Error("Has or Rank of all is wrong")
	}
}

// P8.4

func TestAllIsLeftOffEarly(t *testing.T) {
	for i, l := range many() {
		s := roaring.Of(l)
		for _, n := range []int{1, 2, 3, len(l) / 2, len(l) - 1, len(l), len(l) + 1} {
			var told []uint32
			s.All()(func(x uint32) bool { // it goes on being handed numbers, if it is not left off
				told = append(told, x)
				return len(told) < n
			})
			if want := l[:min(max(n, 1), len(l))]; !slices.Equal(told, want) {
				t.Fatalf("All of the set %d, left off behind %d numbers, tells %d: %v", i, n, len(told), some(told))
			}
		}
	}
	for x := range roaring.New().Not(1 << 32).All() {
		if x == 70000 {
			break
		}
		if x > 70000 {
			t.Fatal("All goes on behind a break")
		}
	}
}

func TestAllIsRangedOverAsOftenAsOneLikes(t *testing.T) {
	for _, l := range many() {
		all := roaring.Of(l).All()
		for range 3 {
			for range all {
				break
			}
			if told := slices.Collect(all); !slices.Equal(told, l) {
				t.Fatalf("All, ranged over again, tells %d numbers, not %d", len(told), len(l))
			}
		}
	}
}

func TestAllTellsTheNumbersOfItsCall(t *testing.T) {
	l := []uint32{5, 70000, 70002}
	s := roaring.Of(l)
	all := s.All()
	s.Add(6)
	s.Add(70001)
	s.AddRange(1000000, 1000005)
	if told := slices.Collect(all); !slices.Equal(told, l) {
		t.Errorf("All, asked ahead of Add, tells %v, not %v", told, l)
	}
	s = roaring.Of(l)
	var told []uint32
	for x := range s.All() {
		told = append(told, x)
		s.Add(x - 1)
		s.Add(x + 1)
		s.Add(x - 65536)
		s.Add(x + 65536)
	}
	if !slices.Equal(told, l) {
		t.Errorf("All, with Add while it is ranged over, tells %v, not %v", told, l)
	}
	check(t, "a set that was put into while it was ranged over", s, setOf(4, 6, 5, 69999, 70001, 70000, 70003, 70002, top-65530, 65541, 4464, 135536, 4466, 135538).list())
}

func TestRunsGoOnOverKeys(t *testing.T) {
	cases := []struct {
		l    []uint32
		want []api.Span
	}{
		{nil, nil},
		{[]uint32{0}, []api.Span{{Lo: 0, Hi: 1}}},
		{[]uint32{top}, []api.Span{{Lo: top, Hi: top + 1}}},
		{[]uint32{1, 2, 4}, []api.Span{{Lo: 1, Hi: 3}, {Lo: 4, Hi: 5}}},
		{[]uint32{65535, 65536}, []api.Span{{Lo: 65535, Hi: 65537}}},
		{[]uint32{65535, 65537}, []api.Span{{Lo: 65535, Hi: 65536}, {Lo: 65537, Hi: 65538}}},
		{[]uint32{65535, 131072}, []api.Span{{Lo: 65535, Hi: 65536}, {Lo: 131072, Hi: 131073}}},
		{every(65535, 131074, 1), []api.Span{{Lo: 65535, Hi: 131074}}},
		{append(every(10, 196608, 1), 196609), []api.Span{{Lo: 10, Hi: 196608}, {Lo: 196609, Hi: 196610}}},
	}
	for _, c := range cases {
		if r := roaring.Of(c.l).Runs(); !slices.Equal(r, c.want) {
			t.Errorf("Runs of %v is %v, not %v", some(c.l), r, c.want)
		}
	}
}

func TestCopyIsAnotherOneJustLikeIt(t *testing.T) {
	for _, l := range many() {
		s := roaring.Of(l)
		c := s.Copy()
		if c == s || c == nil {
			t.Fatal("Copy is no other set")
		}
		check(t, "Copy", c, l)
		check(t, "what was copied", s, l)
	}
}

// The sentence behind the promises.

func TestSetsOfNone(t *testing.T) {
	for name, s := range none() {
		check(t, name, s, nil)
		check(t, "the copy of "+name, s.Copy(), nil)
		if s.Copy() == nil {
			t.Errorf("the copy of %s is not there", name)
		}
		if s.Len() != 0 || s.Rank(0) != 0 || s.Rank(1<<32) != 0 || s.Rank(math.MaxUint64) != 0 || s.Has(0) || s.Has(5) || s.Has(top) {
			t.Errorf("%s has numbers", name)
		}
		for _, k := range []int{math.MinInt, -1, 0, 1, math.MaxInt} {
			if x, there := s.Select(k); x != 0 || there {
				t.Errorf("%s: Select(%d) is %d, %v", name, k, x, there)
			}
		}
		if len(s.Keys()) != 0 || len(s.Runs()) != 0 {
			t.Errorf("%s has keys or spans", name)
		}
	}
}

func TestAddToASetThatIsNotThereDoesNothing(t *testing.T) {
	var s *roaring.Set
	s.Add(0)
	s.Add(top)
	s.AddRange(0, 10)
	s.AddRange(10, 0)
	s.AddRange(0, math.MaxUint64)
	check(t, "a set that is not there", s, nil)
	if s != nil {
		t.Error("a set that is not there is there now")
	}
}

func TestAddToAZeroSet(t *testing.T) {
	var a, b roaring.Set
	a.Add(9)
	a.AddRange(65535, 65537)
	check(t, "a zero set that was put into", &a, []uint32{9, 65535, 65536})
	check(t, "another zero set", &b, nil)
}
