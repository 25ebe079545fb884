package arrays_test

import (
	"math"
	"slices"
	"testing"

	"isinglass/api"
	"isinglass/arrays"
)

// pair is a call of two arrays, its name, and by the chapter's words whether it takes a number.
type pair struct {
	name  string
	call  func(a, b []uint16) []uint16
	takes func(inA, inB bool) bool
}

// pairs are the calls of two arrays.
func pairs() []pair {
	return []pair{
		{"And", arrays.And, func(inA, inB bool) bool { return inA && inB }},
		{"Or", arrays.Or, func(inA, inB bool) bool { return inA || inB }},
		{"AndNot", arrays.AndNot, func(inA, inB bool) bool { return inA && !inB }},
		{"Xor", arrays.Xor, func(inA, inB bool) bool { return inA != inB }},
	}
}

// set is a set told number by number: an account that needs no order.
type set [api.Container]bool

// setOf is the set of an array's numbers.
func setOf(a []uint16) *set {
	var s set
	for _, x := range a {
		s[x] = true
	}
	return &s
}

// list is the array of the numbers that s has.
func (s *set) list() []uint16 {
	var l []uint16
	for x, there := range s {
		if there {
			l = append(l, uint16(x))
		}
	}
	return l
}

// below is how many numbers below x are in s.
func (s *set) below(x uint16) int {
	n := 0
	for _, there := range s[:x] {
		if there {
			n++
		}
	}
	return n
}

// runs is how many runs s has: each begins where its number ahead is not there.
func (s *set) runs() int {
	n := 0
	ahead := false
	for _, there := range s {
		if there && !ahead {
			n++
		}
		ahead = there
	}
	return n
}

// paired is what a pair's call is to tell of a and b.
func paired(a, b []uint16, takes func(inA, inB bool) bool) []uint16 {
	inA, inB := setOf(a), setOf(b)
	var s set
	for x := range s {
		s[x] = (inA[x] || inB[x]) && takes(inA[x], inB[x])
	}
	return s.list()
}

// every is the array of every step-th number, from the first one on, below the end.
func every(from, to, step int) []uint16 {
	var l []uint16
	for x := from; x < to; x += step {
		l = append(l, uint16(x))
	}
	return l
}

// mixed is an array by a short rule, of some n numbers here and there.
func mixed(n int, seed uint64) []uint16 {
	l := make([]uint16, n)
	for i := range l {
		seed = seed*6364136223846793005 + 1442695040888963407
		l[i] = uint16(seed >> 40)
	}
	slices.Sort(l)
	return slices.Compact(l)
}

// few are all the arrays of some six numbers, those at the edges among them.
func few() [][]uint16 {
	numbers := []uint16{0, 1, 2, 500, 65534, 65535}
	l := make([][]uint16, 1<<len(numbers))
	for i := range l {
		for k, x := range numbers {
			if i>>k&1 == 1 {
				l[i] = append(l[i], x)
			}
		}
	}
	return l
}

// many are longer arrays: of runs, of single numbers, of all numbers, and mixed ones.
func many() [][]uint16 {
	return [][]uint16{
		nil,
		{},
		every(0, api.Container, 1),
		every(0, api.Container, 2),
		every(1, api.Container, 2),
		every(0, api.MaxArray, 1),
		every(0, api.MaxArray+1, 1),
		every(api.Container-api.MaxArray, api.Container, 1),
		every(7, api.Container, 257),
		slices.Concat(every(10, 20, 1), every(21, 30, 1), every(255, 257, 1), every(65500, api.Container, 1)),
		mixed(100, 1),
		mixed(4000, 2),
		mixed(40000, 3),
	}
}

// noArrays are rows that do not rise: a number twice, at the front, within and at the end, falling ones, long ones, and one with more numbers than there may be.
func noArrays() [][]uint16 {
	falling := every(0, api.Container, 1)
	slices.Reverse(falling)
	swapped := every(0, 1000, 1)
	swapped[998], swapped[999] = swapped[999], swapped[998]
	return [][]uint16{
		{0, 0},
		{65535, 65535},
		{65535, 0},
		{1, 0},
		{1, 1, 2},
		{1, 2, 2},
		{1, 2, 2, 3},
		{1, 2, 3, 0},
		{3, 1, 2},
		{5, 4, 3, 2, 1},
		swapped,
		falling,
		make([]uint16, 70000),
		slices.Concat(every(0, api.Container, 1), every(0, api.Container, 1)),
	}
}

// probes are numbers to be asked for: the edges, and each of an array's with its neighbours.
func probes(a []uint16) []uint16 {
	l := []uint16{0, 1, 2, 3, 255, 256, 499, 500, 501, 4095, 4096, 32767, 32768, 65533, 65534, 65535}
	for i := 0; i < len(a); i += 1 + len(a)/20 {
		l = append(l, a[i]-1, a[i], a[i]+1)
	}
	return l
}

// P4.1

func TestMayTellsArrays(t *testing.T) {
	for _, a := range slices.Concat(few(), many()) {
		if !arrays.May(a) {
			t.Errorf("May is false of an array of %d numbers, %v first", len(a), a[:min(len(a), 6)])
		}
	}
}

func TestMayRefusesOtherRows(t *testing.T) {
	for _, a := range noArrays() {
		if arrays.May(a) {
			t.Errorf("May is true of a row of %d numbers, %v first", len(a), a[:min(len(a), 6)])
		}
	}
}

func TestMaySeesOneFaultAnywhere(t *testing.T) {
	for i := range 99 {
		a := every(0, 1000, 10)
		a[i] = a[i+1]
		if arrays.May(a) {
			t.Errorf("May is true, though the numbers %d and %d are one", i, i+1)
		}
		a[i] = a[i+1] + 1
		if arrays.May(a) {
			t.Errorf("May is true, though the number %d is above the next one", i)
		}
	}
}

func TestFindTellsWhatItIsTold(t *testing.T) {
	cases := []struct {
		a     []uint16
		x     uint16
		n     int
		there bool
	}{
		{nil, 0, 0, false},
		{nil, 65535, 0, false},
		{[]uint16{}, 7, 0, false},
		{[]uint16{0}, 0, 0, true},
		{[]uint16{0}, 65535, 1, false},
		{[]uint16{65535}, 0, 0, false},
		{[]uint16{65535}, 65535, 0, true},
		{[]uint16{1, 5, 9}, 0, 0, false},
		{[]uint16{1, 5, 9}, 1, 0, true},
		{[]uint16{1, 5, 9}, 4, 1, false},
		{[]uint16{1, 5, 9}, 5, 1, true},
		{[]uint16{1, 5, 9}, 6, 2, false},
		{[]uint16{1, 5, 9}, 9, 2, true},
		{[]uint16{1, 5, 9}, 10, 3, false},
		{every(0, api.Container, 1), 0, 0, true},
		{every(0, api.Container, 1), 65535, 65535, true},
		{every(0, api.Container-1, 1), 65535, 65535, false},
	}
	for _, c := range cases {
		if n, there := arrays.Find(c.a, c.x); n != c.n || there != c.there {
			t.Errorf("Find of %d in %d numbers, %v first: %d, %v, not %d, %v", c.x, len(c.a), c.a[:min(len(c.a), 6)], n, there, c.n, c.there)
		}
	}
}

func TestFindCountsWhatIsBelow(t *testing.T) {
	for _, a := range slices.Concat(few(), many()) {
		s := setOf(a)
		for _, x := range probes(a) {
			n, there := arrays.Find(a, x)
			if n != s.below(x) || there != s[x] {
				t.Errorf("Find of %d in %d numbers, %v first: %d, %v, not %d, %v", x, len(a), a[:min(len(a), 6)], n, there, s.below(x), s[x])
			}
		}
	}
}

func TestWithTellsWhatItIsTold(t *testing.T) {
	cases := []struct {
		a    []uint16
		x    uint16
		want []uint16
	}{
		{nil, 0, []uint16{0}},
		{[]uint16{}, 65535, []uint16{65535}},
		{[]uint16{0}, 0, []uint16{0}},
		{[]uint16{65535}, 65535, []uint16{65535}},
		{[]uint16{65535}, 0, []uint16{0, 65535}},
		{[]uint16{0}, 65535, []uint16{0, 65535}},
		{[]uint16{1, 5, 9}, 0, []uint16{0, 1, 5, 9}},
		{[]uint16{1, 5, 9}, 1, []uint16{1, 5, 9}},
		{[]uint16{1, 5, 9}, 4, []uint16{1, 4, 5, 9}},
		{[]uint16{1, 5, 9}, 5, []uint16{1, 5, 9}},
		{[]uint16{1, 5, 9}, 6, []uint16{1, 5, 6, 9}},
		{[]uint16{1, 5, 9}, 9, []uint16{1, 5, 9}},
		{[]uint16{1, 5, 9}, 10, []uint16{1, 5, 9, 10}},
	}
	for _, c := range cases {
		if l := arrays.With(c.a, c.x); !slices.Equal(l, c.want) {
			t.Errorf("%v with %d: %v, not %v", c.a, c.x, l, c.want)
		}
	}
}

func TestWithIsTheArrayWithTheNumber(t *testing.T) {
	for _, a := range slices.Concat(few(), many()) {
		for _, x := range probes(a) {
			s := setOf(a)
			s[x] = true
			if l := arrays.With(a, x); !slices.Equal(l, s.list()) {
				t.Errorf("%d numbers, %v first, with %d: %d numbers that are not its", len(a), a[:min(len(a), 6)], x, len(l))
			}
		}
	}
}

func TestRunsTellsWhatItIsTold(t *testing.T) {
	cases := []struct {
		a []uint16
		n int
	}{
		{[]uint16{1, 2, 3, 7, 9, 10}, 3},
		{nil, 0},
		{[]uint16{}, 0},
		{[]uint16{0}, 1},
		{[]uint16{7}, 1},
		{[]uint16{65535}, 1},
		{[]uint16{0, 1}, 1},
		{[]uint16{0, 2}, 2},
		{[]uint16{65534, 65535}, 1},
		{[]uint16{65533, 65535}, 2},
		{[]uint16{0, 65535}, 2},
		{[]uint16{255, 256}, 1},
		{[]uint16{32767, 32768}, 1},
		{[]uint16{1, 257}, 2},
		{every(0, api.Container, 1), 1},
		{every(0, api.Container, 2), 32768},
		{every(1, api.Container, 2), 32768},
	}
	for _, c := range cases {
		if n := arrays.Runs(c.a); n != c.n {
			t.Errorf("%d numbers, %v first, have %d runs, not %d", len(c.a), c.a[:min(len(c.a), 6)], n, c.n)
		}
	}
}

func TestRunsCountsRuns(t *testing.T) {
	for _, a := range slices.Concat(few(), many()) {
		if n, want := arrays.Runs(a), setOf(a).runs(); n != want {
			t.Errorf("%d numbers, %v first, have %d runs, not %d", len(a), a[:min(len(a), 6)], n, want)
		}
	}
}

// P4.2

func TestPairsTellWhatTheyAreTold(t *testing.T) {
	cases := []struct {
		a, b []uint16
		want [4][]uint16 // of And, Or, AndNot, Xor
	}{
		{[]uint16{1, 2}, []uint16{2, 3}, [4][]uint16{{2}, {1, 2, 3}, {1}, {1, 3}}},
		{nil, nil, [4][]uint16{}},
		{nil, []uint16{0, 65535}, [4][]uint16{1: {0, 65535}, 3: {0, 65535}}},
		{[]uint16{0, 65535}, nil, [4][]uint16{1: {0, 65535}, 2: {0, 65535}, 3: {0, 65535}}},
		{[]uint16{0, 65535}, []uint16{0, 65535}, [4][]uint16{0: {0, 65535}, 1: {0, 65535}}},
		{[]uint16{0}, []uint16{65535}, [4][]uint16{1: {0, 65535}, 2: {0}, 3: {0, 65535}}},
		{[]uint16{65535}, []uint16{0}, [4][]uint16{1: {0, 65535}, 2: {65535}, 3: {0, 65535}}},
		{[]uint16{1, 3, 5, 7}, []uint16{3, 4, 5}, [4][]uint16{{3, 5}, {1, 3, 4, 5, 7}, {1, 7}, {1, 4, 7}}},
		{[]uint16{3, 4, 5}, []uint16{1, 3, 5, 7}, [4][]uint16{{3, 5}, {1, 3, 4, 5, 7}, {4}, {1, 4, 7}}},
		{[]uint16{1, 2}, []uint16{8, 9}, [4][]uint16{1: {1, 2, 8, 9}, 2: {1, 2}, 3: {1, 2, 8, 9}}},
	}
	for _, c := range cases {
		for i, p := range pairs() {
			if l := p.call(c.a, c.b); !slices.Equal(l, c.want[i]) {
				t.Errorf("%s of %v and %v: %v, not %v", p.name, c.a, c.b, l, c.want[i])
			}
		}
	}
}

func TestPairsOfFewNumbers(t *testing.T) {
	all := few()
	for _, p := range pairs() {
		for i, a := range all {
			for k, b := range all {
				var want []uint16
				for bit, x := range all[len(all)-1] {
					inA, inB := i>>bit&1 == 1, k>>bit&1 == 1
					if (inA || inB) && p.takes(inA, inB) {
						want = append(want, x)
					}
				}
				if l := p.call(a, b); !slices.Equal(l, want) {
					t.Errorf("%s of %v and %v: %v, not %v", p.name, a, b, l, want)
				}
			}
		}
	}
}

func TestPairsOfManyNumbers(t *testing.T) {
	for _, p := range pairs() {
		for i, a := range many() {
			for k, b := range many() {
				l := p.call(a, b)
				if !slices.Equal(l, paired(a, b, p.takes)) {
					t.Errorf("%s of the arrays %d and %d: %d numbers that are not its", p.name, i, k, len(l))
				}
				if !arrays.May(l) {
					t.Errorf("%s of the arrays %d and %d is no array", p.name, i, k)
				}
			}
		}
	}
}

// P4.1, P4.2: all calls end, what is handed in stays, what is told has memory of its own.

func TestCallsEndAtOtherRows(t *testing.T) {
	rows := slices.Concat(noArrays(), [][]uint16{nil, {0}, {65535}, every(0, api.Container, 1)})
	for _, a := range rows {
		for _, x := range []uint16{0, 1, 2, 3, 1000, math.MaxUint16} {
			arrays.Find(a, x)
			arrays.With(a, x)
		}
		arrays.Runs(a)
		for _, b := range rows {
			for _, p := range pairs() {
				p.call(a, b)
			}
		}
	}
}

// roomy is an array with room behind it, in which there stand numbers that are not its.
func roomy(a ...uint16) (l, whole []uint16) {
	whole = append(slices.Clone(a), 11111, 22222, 33333)
	return whole[:len(a)], whole
}

func TestWhatIsHandedInStays(t *testing.T) {
	for _, x := range []uint16{0, 1, 4, 5, 9, 10, 65535} {
		a, whole := roomy(1, 5, 9)
		arrays.May(a)
		arrays.Find(a, x)
		arrays.With(a, x)
		arrays.Runs(a)
		if !slices.Equal(whole, []uint16{1, 5, 9, 11111, 22222, 33333}) {
			t.Errorf("calls with %d changed what they were handed: %v", x, whole)
		}
	}
	for _, p := range pairs() {
		a, wholeA := roomy(1, 5, 9)
		b, wholeB := roomy(0, 5, 10)
		p.call(a, b)
		p.call(a, nil)
		p.call(nil, b)
		p.call(a, a)
		if !slices.Equal(wholeA, []uint16{1, 5, 9, 11111, 22222, 33333}) || !slices.Equal(wholeB, []uint16{0, 5, 10, 11111, 22222, 33333}) {
			t.Errorf("%s changed what it was handed: %v, %v", p.name, wholeA, wholeB)
		}
	}
}

// spoil changes all the numbers of a row, and those in the room behind it.
func spoil(l []uint16) {
	l = l[:cap(l)]
	for i := range l {
		l[i] ^= 0xffff
	}
}

func TestWithHasMemoryOfItsOwn(t *testing.T) {
	for _, x := range []uint16{0, 1, 4, 5, 9, 10} {
		a, whole := roomy(1, 5, 9)
		was := slices.Clone(whole)
		l := arrays.With(a, x)
		want := slices.Clone(l)
		spoil(l)
		if !slices.Equal(whole, was) {
			t.Errorf("what With told with %d was changed, and so was what it was handed", x)
		}
		l = arrays.With(a, x)
		spoil(whole)
		if !slices.Equal(l, want) {
			t.Errorf("what With was handed with %d was changed, and so was what it told", x)
		}
	}
}

func TestPairsHaveMemoryOfTheirOwn(t *testing.T) {
	cases := [][2][]uint16{{{1, 5, 9}, {0, 5, 10}}, {{1, 5, 9}, {1, 5, 9}}, {{1, 5, 9}, nil}, {nil, {1, 5, 9}}, {{1, 5, 9}, {20, 30}}, {{20, 30}, {1, 5, 9}}}
	for _, p := range pairs() {
		for _, c := range cases {
			a, wholeA := roomy(c[0]...)
			b, wholeB := roomy(c[1]...)
			wasA, wasB := slices.Clone(wholeA), slices.Clone(wholeB)
			l := p.call(a, b)
			want := slices.Clone(l)
			spoil(l)
			if !slices.Equal(wholeA, wasA) || !slices.Equal(wholeB, wasB) {
				t.Errorf("what %s told of %v and %v was changed, and so was what it was handed", p.name, c[0], c[1])
			}
			l = p.call(a, b)
			spoil(wholeA)
			spoil(wholeB)
			if !slices.Equal(l, want) {
				t.Errorf("what %s was handed, %v and %v, was changed, and so was what it told", p.name, c[0], c[1])
			}
		}
	}
}

func TestTheSameArrayTwice(t *testing.T) {
	for _, a := range many() {
		if l := arrays.And(a, a); !slices.Equal(l, a) {
			t.Errorf("And of %d numbers and themselves: %d numbers", len(a), len(l))
		}
		if l := arrays.Or(a, a); !slices.Equal(l, a) {
			t.Errorf("Or of %d numbers and themselves: %d numbers", len(a), len(l))
		}
		if l := arrays.AndNot(a, a); len(l) != 0 {
			t.Errorf("AndNot of %d numbers and themselves: %d numbers", len(a), len(l))
		}
		if l := arrays.Xor(a, a); len(l) != 0 {
			t.Errorf("Xor of %d numbers and themselves: %d numbers", len(a), len(l))
		}
	}
}
