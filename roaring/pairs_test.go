package roaring_test

import (
	"math"
	"slices"
	"testing"

	"isinglass/api"
	"isinglass/roaring"
)

// pair is a call of two sets, its name, and by the chapter's words whether it takes a number.
type pair struct {
	name  string
	call  func(s, o *roaring.Set) *roaring.Set
	takes func(inS, inO bool) bool
}

// pairs are the calls of two sets.
func pairs() []pair {
	return []pair{
		{"And", (*roaring.Set).And, func(inS, inO bool) bool { return inS && inO }},
		{"Or", (*roaring.Set).Or, func(inS, inO bool) bool { return inS || inO }},
		{"AndNot", (*roaring.Set).AndNot, func(inS, inO bool) bool { return inS && !inO }},
		{"Xor", (*roaring.Set).Xor, func(inS, inO bool) bool { return inS != inO }},
	}
}

// P8.3

func TestPairsTellWhatTheyAreTold(t *testing.T) {
	type row = []uint32
	cases := []struct {
		name string
		call func(s, o *roaring.Set) *roaring.Set
		a, b row
		want row
	}{
		{"And", (*roaring.Set).And, row{1, 2, 70000}, row{2, 3, 70000, 140000}, row{2, 70000}},
		{"And of other keys", (*roaring.Set).And, row{1, 140000}, row{70000, top}, nil},
		{"And that leaves nothing of a key", (*roaring.Set).And, row{1, 65536, 131072}, row{1, 65537, 131072}, row{1, 131072}},
		{"And that leaves nothing", (*roaring.Set).And, row{1, 65536}, row{2, 65537}, nil},
		{"And of every second number", (*roaring.Set).And, every(0, 131072, 2), every(1, 131072, 2), nil},
		{"Or", (*roaring.Set).Or, row{1, 2, 70000}, row{2, 3, 140000}, row{1, 2, 3, 70000, 140000}},
		{"Or of numbers in a row", (*roaring.Set).Or, row{1, 2, top}, row{3, 4, top - 1}, row{1, 2, 3, 4, top - 1, top}},
		{"Or of keys between", (*roaring.Set).Or, row{65536, 196608}, row{0, 131072, 262144}, row{0, 65536, 131072, 196608, 262144}},
		{"Or of every second number", (*roaring.Set).Or, every(0, 131072, 2), every(1, 131072, 2), every(0, 131072, 1)},
		{"AndNot", (*roaring.Set).AndNot, row{1, 2, 70000, 140000}, row{2, 3, 140000, top}, row{1, 70000}},
		{"AndNot the other way round", (*roaring.Set).AndNot, row{2, 3, 140000, top}, row{1, 2, 70000, 140000}, row{3, top}},
		{"AndNot that leaves nothing of a key", (*roaring.Set).AndNot, row{1, 65536, 65540, 131072}, row{65536, 65538, 65540, 131073}, row{1, 131072}},
		{"AndNot that leaves nothing", (*roaring.Set).AndNot, every(5, 70000, 1), every(0, 70000, 1), nil},
		{"Xor", (*roaring.Set).Xor, row{1, 2, 70000}, row{2, 3, 140000}, row{1, 3, 70000, 140000}},
		{"Xor that leaves nothing of a key", (*roaring.Set).Xor, row{1, 65536, 65540, 131072}, row{2, 65536, 65540, top}, row{1, 2, 131072, top}},
		{"Xor that leaves nothing", (*roaring.Set).Xor, every(0, 200000, 3), every(0, 200000, 3), nil},
		{"Xor of all of a key", (*roaring.Set).Xor, every(65536, 131072, 1), every(65537, 131072, 2), every(65536, 131072, 2)},
	}
	for _, c := range cases {
		check(t, c.name, c.call(roaring.Of(c.a), roaring.Of(c.b)), c.want)
	}
}

func TestPairsOfManyNumbers(t *testing.T) {
	var sets []set
	var made []*roaring.Set
	for _, l := range many() {
		sets = append(sets, setOf(l...))
		made = append(made, roaring.Of(l))
	}
	for _, p := range pairs() {
		for i := range made {
			for k := range made {
				told, want := p.call(made[i], made[k]), paired(sets[i], sets[k], p.takes).list()
				checkDirectory(t, p.name, told, want)
				if told.Len() != len(want) {
					t.Fatalf("%s of the sets %d and %d: %d numbers, not %d", p.name, i, k, told.Len(), len(want))
				}
			}
		}
	}
}

func TestPairsOfNone(t *testing.T) {
	for _, p := range pairs() {
		for name, s := range none() {
			for also, o := range none() {
				check(t, p.name+" of "+name+" and "+also, p.call(s, o), nil)
			}
			for _, l := range many() {
				var first, second []uint32
				if p.takes(true, false) {
					first = l
				}
				if p.takes(false, true) {
					second = l
				}
				checkDirectory(t, p.name+" of a set and "+name, p.call(roaring.Of(l), s), first)
				checkDirectory(t, p.name+" of "+name+" and a set", p.call(s, roaring.Of(l)), second)
			}
		}
	}
}

func TestPairsOfAll(t *testing.T) {
	all := roaring.New().Not(1 << 32)
	some := roaring.Of([]uint32{5, 70000, top})
	checkAll(t, "Or of all", all.Or(some))
	checkAll(t, "Or with all", some.Or(all))
	checkAll(t, "And of all and all", all.And(all))
	checkAll(t, "Xor of what is not there", some.Xor(some.Not(1<<32)))
	check(t, "And of all", all.And(some), []uint32{5, 70000, top})
	check(t, "AndNot of all", some.AndNot(all), nil)
	check(t, "Xor of all and all", all.Xor(all), nil)
	check(t, "AndNot of all and all", all.AndNot(all), nil)
}

func TestNotTellsWhatItIsTold(t *testing.T) {
	cases := []struct {
		l    []uint32
		n    uint64
		want []uint32
	}{
		{[]uint32{1, 5}, 0, nil},
		{[]uint32{1, 5}, 1, []uint32{0}},
		{[]uint32{1, 5}, 2, []uint32{0}},
		{[]uint32{1, 5}, 4, []uint32{0, 2, 3}},
		{[]uint32{1, 5}, 5, []uint32{0, 2, 3, 4}},
		{[]uint32{1, 5}, 6, []uint32{0, 2, 3, 4}},
		{[]uint32{1, 5, 70000}, 7, []uint32{0, 2, 3, 4, 6}}, // what is at n and above is not told
		{[]uint32{0, 1, 2}, 3, nil},
		{[]uint32{0, 1, 2, 9}, 3, nil},
		{nil, 3, []uint32{0, 1, 2}},
		{nil, 65536, every(0, 65536, 1)},
		{nil, 65537, every(0, 65537, 1)},
		{every(0, 65536, 1), 65536, nil},
		{every(0, 65536, 1), 65538, []uint32{65536, 65537}},
		{every(65536, 131072, 1), 131073, append(every(0, 65536, 1), 131072)}, // nothing is left of a key
		{every(0, 200000, 2), 200000, every(1, 200000, 2)},
	}
	for _, c := range cases {
		check(t, "Not", roaring.Of(c.l).Not(c.n), c.want)
	}
}

func TestNotOfManyNumbers(t *testing.T) {
	for i, l := range many() {
		s, there := roaring.Of(l), setOf(l...)
		for _, n := range []uint64{0, 1, 2, 10, 65535, 65536, 65537, 131072, 200000} {
			var want []uint32
			for x := range uint32(n) {
				if !there.has(x) {
					want = append(want, x)
				}
			}
			checkDirectory(t, "Not", s.Not(n), want)
		}
		not := s.Not(1 << 32)
		if not.Len() != 1<<32-len(l) || not.And(s).Len() != 0 || !not.Not(1<<32).Same(s) {
			t.Errorf("Not(2^32) of the set %d is %d numbers, not the rest of all beside %d", i, not.Len(), len(l))
		}
	}
}

func TestNotOfAll(t *testing.T) {
	s := roaring.Of([]uint32{0, 5, 70000, top})
	for _, n := range []uint64{1 << 32, 1<<32 + 1, 1<<32 + 6, 1 << 33, 1 << 63, math.MaxUint64} {
		checkAll(t, "Not, and the set", s.Not(n).Or(s))
		check(t, "Not twice", s.Not(n).Not(n), []uint32{0, 5, 70000, top})
	}
	if not := s.Not(top); not.Len() != top-3 || not.Has(top) || not.Has(5) || !not.Has(top-1) {
		t.Errorf("Not(2^32 - 1) is %d numbers, not 2^32 - 4", not.Len())
	}
	for name, s := range none() {
		check(t, "Not(0) of "+name, s.Not(0), nil)
		check(t, "Not(70000) of "+name, s.Not(70000), every(0, 70000, 1))
		checkAll(t, "Not(2^32) of "+name, s.Not(1<<32))
		checkAll(t, "Not of more of "+name, s.Not(math.MaxUint64))
	}
	check(t, "Not of all", roaring.New().Not(1<<32).Not(1<<32), nil)
	check(t, "Not of all but one", roaring.Of([]uint32{70000}).Not(1<<32).Not(1<<40), []uint32{70000})
}

func TestSameIsWhetherBothHaveTheSameNumbers(t *testing.T) {
	var made []*roaring.Set
	for _, l := range many() {
		made = append(made, roaring.Of(l))
	}
	for i, s := range made {
		for k, l := range many() {
			if s.Same(roaring.Of(l)) != (i == k) {
				t.Errorf("Same of the sets %d and %d is %v", i, k, i != k)
			}
		}
		for _, x := range []uint32{0, 1, 2, 65535, 65536, 70000, 131073, 7 * 65536, 1 << 31, top} {
			one := roaring.Of([]uint32{x})
			if s.Same(s.Xor(one)) || s.Xor(one).Same(s) || !s.Same(s.Xor(one).Xor(one)) {
				t.Errorf("Same of the set %d, and that with or without %d, is wrong", i, x)
			}
		}
	}
	if roaring.Of([]uint32{1, 65537}).Same(roaring.Of([]uint32{1, 131073})) || roaring.Of([]uint32{1}).Same(roaring.Of([]uint32{1, 131073})) || roaring.Of([]uint32{1, 65536}).Same(roaring.Of([]uint32{65536})) {
		t.Error("Same is true of sets with other keys")
	}
	for name, s := range none() {
		for also, o := range none() {
			if !s.Same(o) {
				t.Errorf("%s and %s are not the same", name, also)
			}
		}
		if one := roaring.Of([]uint32{0}); s.Same(one) || one.Same(s) {
			t.Errorf("%s is the same as the set of 0", name)
		}
	}
}

// What is handed in is not kept and stays, what is told has memory of its own, And to Not and Copy tell new sets.

func TestWhatIsHandedInIsNotKeptAndStays(t *testing.T) {
	numbers := []uint32{70000, 5, 1, 5, 70000, 6}
	given := append(slices.Clone(numbers), 99)[:6]
	s := roaring.Of(given)
	if !slices.Equal(given, numbers) || given[:7][6] != 99 {
		t.Error("Of changed what it was handed")
	}
	spoil(given, 44)
	check(t, "Of a row that was changed behind", s, []uint32{1, 5, 6, 70000})

	rising := []uint32{1, 5, 6, 70000}
	s = roaring.Of(rising)
	spoil(rising, 44)
	check(t, "Of a rising row that was changed behind", s, []uint32{1, 5, 6, 70000})

	told := []api.Span{{Lo: 9, Hi: 12}, {Lo: 1, Hi: 3}, {Lo: 4, Hi: 4}, {Lo: 3, Hi: 4}, {Lo: top, Hi: math.MaxUint64}}
	spans := append(slices.Clone(told), api.Span{Lo: 99})[:5]
	s = roaring.Spans(spans)
	if !slices.Equal(spans, told) || spans[:6][5] != (api.Span{Lo: 99}) {
		t.Error("Spans changed what it was handed")
	}
	spoil(spans, api.Span{Lo: 44, Hi: 55})
	check(t, "Spans of a row that was changed behind", s, []uint32{1, 2, 3, 9, 10, 11, top})

	in := []api.Span{{Lo: 1, Hi: 3}, {Lo: 5, Hi: 6}}
	s = roaring.Spans(in)
	spoil(in, api.Span{Lo: 44, Hi: 55})
	check(t, "Spans of a rising row that was changed behind", s, []uint32{1, 2, 5})
}

func TestWhatJoinIsHandedIsNotKeptAndStays(t *testing.T) {
	lows := []uint16{1, 2, 3, 4}
	keys, l := []uint16{2, 7}, each(array(lows...))[:2]
	spoil(lows, 0)
	s, e := roaring.Join(keys, l)
	want := []uint32{131073, 131074, 131075, 131076, 458753, 458754, 458755, 458756}
	if e != api.OK || !slices.Equal(keys, []uint16{2, 7}) || l[0].Kind() != api.Arrays || l[1].Kind() != api.Words {
		t.Fatalf("Join: the error %d, or what it was handed was changed", e)
	}
	spoil(keys, 9)
	spoil(l, array(44))
	check(t, "Join of rows that were changed behind", s, want)

	keys, l = []uint16{7, 2}, each(array(1))[:2]
	roaring.Join(keys, l)
	if !slices.Equal(keys, []uint16{7, 2}) || l[0].Kind() != api.Arrays || l[1].Kind() != api.Words {
		t.Error("Join changed what it refused")
	}
	keys, l = []uint16{2, 7}, each(array(1))[:2]
	first, _ := roaring.Join(keys, l)
	second, _ := roaring.Join(keys, l)
	first.Add(131074)
	check(t, "another Join of the same containers", second, []uint32{131073, 458753})
	if l[0].Len() != 1 || l[1].Len() != 1 {
		t.Error("Add to what was joined changed the containers")
	}
}

func TestRowsThatAreToldAreTheirOwn(t *testing.T) {
	for _, l := range many() {
		s := roaring.Of(l)
		spoil(s.Keys(), 3)
		spoil(s.Runs(), api.Span{Lo: 3, Hi: 4})
		for i := range s.Keys() {
			c, _ := s.At(i)
			spoil(c.Array(), 3)
			spoil(c.Words(), 3)
			spoil(c.Runs(), api.Run{First: 3})
			c.With(9)
		}
		check(t, "a set whose rows were changed", s, l)
	}
	s := roaring.Of([]uint32{5, 70000})
	keys, runs := s.Keys(), s.Runs()
	c, _ := s.At(0)
	change(s)
	if !slices.Equal(keys, []uint16{0, 1}) || !slices.Equal(runs, []api.Span{{Lo: 5, Hi: 6}, {Lo: 70000, Hi: 70001}}) || !slices.Equal(c.Array(), []uint16{5}) {
		t.Error("what was told changed with the set")
	}
}

// change changes a set, each container of its among it.
func change(s *roaring.Set) {
	for _, key := range s.Keys() {
		for low := uint32(0); low < 65536; low += 331 {
			s.Add(uint32(key)<<16 | low)
		}
		s.AddRange(uint64(key)<<16+100, uint64(key)<<16+70)
		s.AddRange(uint64(key)<<16+60000, uint64(key)<<16+70000)
	}
	s.Add(300000)
	s.AddRange(0, 9)
}

// calls are the calls that tell new sets, by their names.
func calls() map[string]func(s, o *roaring.Set) *roaring.Set {
	l := map[string]func(s, o *roaring.Set) *roaring.Set{
		"Not(0)":     func(s, o *roaring.Set) *roaring.Set { return s.Not(0) },
		"Not(70000)": func(s, o *roaring.Set) *roaring.Set { return s.Not(70000) },
		"Not(2^18)":  func(s, o *roaring.Set) *roaring.Set { return s.Not(1 << 18) },
		"Copy":       func(s, o *roaring.Set) *roaring.Set { return s.Copy() },
	}
	for _, p := range pairs() {
		l[p.name] = p.call
		l[p.name+" of itself"] = func(s, o *roaring.Set) *roaring.Set { return p.call(s, s) }
		for name, no := range none() {
			l[p.name+" with "+name] = func(s, o *roaring.Set) *roaring.Set { return p.call(s, no) }
			l[p.name+" of "+name] = func(s, o *roaring.Set) *roaring.Set { return p.call(no, o) }
		}
	}
	return l
}

func TestNewSetsAreOthers(t *testing.T) {
	a := slices.Concat(every(0, 2*4097, 2), every(65536, 65636, 1), every(131072, 131200, 7))
	b := slices.Concat(every(1, 300, 3), every(65536, 65536+2*4097, 2), every(196608, 200000, 1), []uint32{top})
	for name, call := range calls() {
		for _, pair := range [][2][]uint32{{a, b}, {b, a}, {a, a}, {nil, a}, {a, nil}, {nil, nil}} {
			s, o := roaring.Of(pair[0]), roaring.Of(pair[1])
			told := call(s, o)
			if told == nil || told == s || told == o {
				t.Fatalf("%s tells no new set", name)
			}
			want := slices.Collect(told.All())
			checkDirectory(t, name+": the first set", s, pair[0])
			checkDirectory(t, name+": the second set", o, pair[1])
			change(told)
			checkDirectory(t, name+": the first set, when what is told was changed,", s, pair[0])
			checkDirectory(t, name+": the second set, when what is told was changed,", o, pair[1])
			told = call(s, o)
			checkDirectory(t, name+", called again", told, want)
			change(s)
			checkDirectory(t, name+", when the first set was changed", told, want)
			change(o)
			checkDirectory(t, name+", when the second set was changed", told, want)
			for is, no := range none() {
				check(t, is, no, nil)
			}
		}
	}
}

func TestWhatIsOnlyAskedStays(t *testing.T) {
	for _, l := range many() {
		s, o := roaring.Of(l), roaring.Of(mixed(500, 9))
		s.Has(5)
		s.Len()
		s.Rank(1 << 32)
		s.Select(0)
		s.Same(o)
		o.Same(s)
		s.Runs()
		s.Keys()
		s.At(0)
		for range s.All() {
			break
		}
		for _, call := range calls() {
			call(s, o)
			call(o, s)
		}
		check(t, "a set that was asked", s, l)
		check(t, "the other set", o, mixed(500, 9))
	}
}
