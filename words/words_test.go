package words_test

import (
	"math"
	"slices"
	"testing"

	"isinglass/api"
	"isinglass/words"
)

// wordCount is how many words the chapter says a set has.
const wordCount = 1024

// set is a set told number by number: an account that needs no words.
type set [api.Container]bool

// setOf is the set of some numbers.
func setOf(l []uint16) *set {
	var s set
	for _, x := range l {
		s[x] = true
	}
	return &s
}

// words is the set as the chapter lays it out, bit by bit.
func (s *set) words() []uint64 {
	w := make([]uint64, wordCount)
	for x, there := range s {
		if there {
			w[x/64] |= uint64(1) << (x % 64)
		}
	}
	return w
}

// list is the numbers that s has, rising.
func (s *set) list() []uint16 {
	var l []uint16
	for x, there := range s {
		if there {
			l = append(l, uint16(x))
		}
	}
	return l
}

// below is how many numbers below x are in s, of each x from 0 to 65536.
func (s *set) below() []int {
	l := []int{0}
	n := 0
	for _, there := range s {
		if there {
			n++
		}
		l = append(l, n)
	}
	return l
}

// runs is how many runs s has: each begins where its number ahead is not there.
func (s *set) runs() int {
	n := 0
	ahead := false
	for _, there := range s {
		if there && !ahead {
			n++
		}
		ahead = there
	}
	return n
}

// flipped is s, but that the numbers from lo on, below hi, are there just if they were not.
func (s *set) flipped(lo, hi int) *set {
	f := *s
	for x := max(lo, 0); x < min(hi, len(f)); x++ {
		f[x] = !f[x]
	}
	return &f
}

// every is every step-th number, from the first one on, below the end.
func every(from, to, step int) []uint16 {
	var l []uint16
	for x := from; x < to; x += step {
		l = append(l, uint16(x))
	}
	return l
}

// mixed is some n numbers here and there by a short rule, in no order, some of them more than once.
func mixed(n int, seed uint64) []uint16 {
	l := make([]uint16, n)
	for i := range l {
		seed = seed*6364136223846793005 + 1442695040888963407
		l[i] = uint16(seed >> 40)
	}
	return l
}

// others is every other word's numbers, whole words of them, from the word first on.
func others(first int) []uint16 {
	var l []uint16
	for i := first; i < wordCount; i += 2 {
		l = append(l, every(64*i, 64*i+64, 1)...)
	}
	return l
}

// many are numbers of many sets: of none, of all, of one number, of single ones, of runs within words and over them, and mixed ones.
func many() [][]uint16 {
	return [][]uint16{
		nil,
		{0},
		{63},
		{64},
		{65535},
		{63, 64},
		{62, 65},
		{0, 63, 64, 65535},
		every(0, api.Container, 1),
		every(1, api.Container, 1),
		every(0, api.Container-1, 1),
		every(0, api.Container, 2),
		every(1, api.Container, 2),
		every(0, 64, 1),
		every(64, 128, 1),
		every(60, 70, 1),
		every(100, 1000, 1),
		every(7, api.Container, 257),
		others(0),
		others(1),
		slices.Concat(every(10, 20, 1), every(21, 64, 1), every(65, 128, 1), every(255, 257, 1), every(65500, api.Container, 1)),
		mixed(100, 1),
		mixed(4000, 2),
		mixed(40000, 3),
		mixed(200000, 4),
	}
}

// few are all the sets' numbers of some seven numbers at the edges of words.
func few() [][]uint16 {
	numbers := []uint16{0, 1, 62, 63, 64, 65, 65535}
	l := make([][]uint16, 1<<len(numbers))
	for i := range l {
		for k, x := range numbers {
			if i>>k&1 == 1 {
				l[i] = append(l[i], x)
			}
		}
	}
	return l
}

// places are those that are asked for: the edges, and such as no number has.
func places() []int {
	return []int{math.MinInt, math.MinInt + 1, math.MinInt32, -65536, -64, -1, 0, 1, 2, 31, 62, 63, 64, 65, 127, 128, 129, 1000, 4096, 32768, 65471, 65472, 65473, 65534, 65535, 65536, 65537, 65600, 131072, math.MaxInt32, math.MaxInt - 64, math.MaxInt}
}

// ones is a row of n words whose bits are all 1.
func ones(n int) []uint64 {
	w := make([]uint64, n)
	for i := range w {
		w[i] = math.MaxUint64
	}
	return w
}

// noSets are rows that are not 1024 words.
func noSets() [][]uint64 {
	return [][]uint64{nil, {}, {0}, {1}, ones(1), ones(2), make([]uint64, 1023), ones(1023), make([]uint64, 1025), ones(1025), ones(4096), ones(70000)}
}

// P5.1

func TestOfLaysItsNumbersOut(t *testing.T) {
	cases := []struct {
		a    []uint16
		want map[int]uint64 // the words that are not 0
	}{
		{nil, nil},
		{[]uint16{}, nil},
		{[]uint16{0}, map[int]uint64{0: 1}},
		{[]uint16{1}, map[int]uint64{0: 2}},
		{[]uint16{63}, map[int]uint64{0: 0x8000000000000000}},
		{[]uint16{64}, map[int]uint64{1: 1}},
		{[]uint16{127}, map[int]uint64{1: 0x8000000000000000}},
		{[]uint16{65535}, map[int]uint64{1023: 0x8000000000000000}},
		{[]uint16{65472}, map[int]uint64{1023: 1}},
		{[]uint16{1, 5, 9}, map[int]uint64{0: 0x222}},
		{[]uint16{9, 1, 5}, map[int]uint64{0: 0x222}},
		{[]uint16{9, 5, 1, 1, 9, 5, 5}, map[int]uint64{0: 0x222}},
		{[]uint16{65535, 64, 63, 0, 65535}, map[int]uint64{0: 0x8000000000000001, 1: 1, 1023: 0x8000000000000000}},
	}
	for _, c := range cases {
		want := make([]uint64, wordCount)
		for i, word := range c.want {
			want[i] = word
		}
		if w := words.Of(c.a); !slices.Equal(w, want) {
			t.Errorf("Of %v: %d words, %x first", c.a, len(w), w[:min(len(w), 2)])
		}
	}
	if w := words.Of(every(0, api.Container, 1)); !slices.Equal(w, ones(wordCount)) {
		t.Errorf("Of all numbers: %d words that are not all of ones", len(w))
	}
}

func TestOfTakesAnyOrder(t *testing.T) {
	for i, l := range slices.Concat(few(), many()) {
		want := setOf(l).words()
		falling := slices.Clone(l)
		slices.Sort(falling)
		slices.Reverse(falling)
		for k, a := range [][]uint16{l, falling, slices.Concat(l, falling), slices.Concat(l, l, l)} {
			if w := words.Of(a); !slices.Equal(w, want) {
				t.Errorf("Of the numbers %d, order %d: words that are not theirs", i, k)
			}
		}
	}
}

func TestListIsTheNumbers(t *testing.T) {
	for i, l := range slices.Concat(few(), many()) {
		s := setOf(l)
		if got := words.List(s.words()); !slices.Equal(got, s.list()) {
			t.Errorf("List of the set %d: %d numbers, %v first", i, len(got), got[:min(len(got), 6)])
		}
	}
}

func TestListTellsWhatItIsTold(t *testing.T) {
	for _, l := range [][]uint16{nil, {0}, {63}, {64}, {65535}, {1, 5, 9}, {0, 63, 64, 65535}, {62, 63, 64, 65}} {
		if got := words.List(setOf(l).words()); !slices.Equal(got, l) {
			t.Errorf("List of %v: %v", l, got)
		}
	}
}

func TestLenIsHowMany(t *testing.T) {
	cases := []struct {
		a []uint16
		n int
	}{
		{nil, 0},
		{[]uint16{0}, 1},
		{[]uint16{65535}, 1},
		{[]uint16{65535, 65535}, 1},
		{[]uint16{0, 63, 64, 65535}, 4},
		{every(0, api.Container, 1), 65536},
		{every(0, api.Container-1, 1), 65535},
		{every(1, api.Container, 2), 32768},
	}
	for _, c := range cases {
		if n := words.Len(setOf(c.a).words()); n != c.n {
			t.Errorf("Len of %d numbers, %v first: %d, not %d", len(c.a), c.a[:min(len(c.a), 6)], n, c.n)
		}
	}
	for i, l := range slices.Concat(few(), many()) {
		s := setOf(l)
		if n := words.Len(s.words()); n != len(s.list()) {
			t.Errorf("Len of the set %d: %d, not %d", i, n, len(s.list()))
		}
	}
}

func TestHasIsWhetherOneIsThere(t *testing.T) {
	for i, l := range many() {
		s := setOf(l)
		w := s.words()
		for x := range s {
			if words.Has(w, uint16(x)) != s[x] {
				t.Errorf("Has of the set %d: %d is not told as it is", i, x)
				break
			}
		}
	}
}

func TestRankTellsWhatItIsTold(t *testing.T) {
	all := every(0, api.Container, 1)
	cases := []struct {
		a []uint16
		x int
		n int
	}{
		{[]uint16{1, 5, 9}, 6, 2},
		{[]uint16{1, 5, 9}, 0, 0},
		{[]uint16{1, 5, 9}, 1, 0},
		{[]uint16{1, 5, 9}, 2, 1},
		{[]uint16{1, 5, 9}, 9, 2},
		{[]uint16{1, 5, 9}, 10, 3},
		{[]uint16{1, 5, 9}, 64, 3},
		{[]uint16{1, 5, 9}, -1, 0},
		{nil, 0, 0},
		{nil, 65536, 0},
		{[]uint16{0}, 0, 0},
		{[]uint16{0}, -1, 0},
		{[]uint16{0}, math.MinInt, 0},
		{[]uint16{0}, 1, 1},
		{[]uint16{63, 64}, 63, 0},
		{[]uint16{63, 64}, 64, 1},
		{[]uint16{63, 64}, 65, 2},
		{[]uint16{65535}, 65535, 0},
		{[]uint16{65535}, 65536, 1},
		{[]uint16{65535}, 65537, 1},
		{[]uint16{65535}, math.MaxInt, 1},
		{all, -1, 0},
		{all, 0, 0},
		{all, 63, 63},
		{all, 64, 64},
		{all, 65, 65},
		{all, 65535, 65535},
		{all, 65536, 65536},
		{all, 65537, 65536},
		{all, math.MaxInt, 65536},
		{all, math.MinInt, 0},
	}
	for _, c := range cases {
		if n := words.Rank(setOf(c.a).words(), c.x); n != c.n {
			t.Errorf("Rank of %d numbers, %v first, below %d: %d, not %d", len(c.a), c.a[:min(len(c.a), 6)], c.x, n, c.n)
		}
	}
}

func TestRankCountsWhatIsBelow(t *testing.T) {
	for i, l := range slices.Concat(few(), many()) {
		s := setOf(l)
		w, below := s.words(), s.below()
		asked := places()
		for x := 0; x <= api.Container; x += 97 {
			asked = append(asked, x)
		}
		for _, x := range asked {
			want := below[min(max(x, 0), api.Container)]
			if n := words.Rank(w, x); n != want {
				t.Errorf("Rank of the set %d below %d: %d, not %d", i, x, n, want)
			}
		}
	}
}

func TestSelectTellsWhatItIsTold(t *testing.T) {
	all := every(0, api.Container, 1)
	cases := []struct {
		a     []uint16
		k     int
		x     uint16
		there bool
	}{
		{[]uint16{1, 5, 9}, 0, 1, true},
		{[]uint16{1, 5, 9}, 1, 5, true},
		{[]uint16{1, 5, 9}, 2, 9, true},
		{[]uint16{1, 5, 9}, 3, 0, false},
		{[]uint16{1, 5, 9}, 4, 0, false},
		{[]uint16{1, 5, 9}, -1, 0, false},
		{[]uint16{1, 5, 9}, math.MinInt, 0, false},
		{[]uint16{1, 5, 9}, math.MaxInt, 0, false},
		{nil, 0, 0, false},
		{nil, -1, 0, false},
		{[]uint16{0}, 0, 0, true},
		{[]uint16{0}, -1, 0, false},
		{[]uint16{0}, 1, 0, false},
		{[]uint16{65535}, 0, 65535, true},
		{[]uint16{65535}, 1, 0, false},
		{[]uint16{63, 64}, 0, 63, true},
		{[]uint16{63, 64}, 1, 64, true},
		{[]uint16{63, 64}, 2, 0, false},
		{all, -1, 0, false},
		{all, 0, 0, true},
		{all, 63, 63, true},
		{all, 64, 64, true},
		{all, 65535, 65535, true},
		{all, 65536, 0, false},
		{all, 65537, 0, false},
	}
	for _, c := range cases {
		if x, there := words.Select(setOf(c.a).words(), c.k); x != c.x || there != c.there {
			t.Errorf("Select %d of %d numbers, %v first: %d, %v, not %d, %v", c.k, len(c.a), c.a[:min(len(c.a), 6)], x, there, c.x, c.there)
		}
	}
}

func TestSelectTellsEachNumber(t *testing.T) {
	for i, l := range slices.Concat(few(), many()) {
		s := setOf(l)
		w, list := s.words(), s.list()
		for k := 0; k < len(list); k += 1 + len(list)/3000 {
			if x, there := words.Select(w, k); x != list[k] || !there {
				t.Errorf("Select %d of the set %d: %d, %v, not %d", k, i, x, there, list[k])
			}
		}
		if n := len(list); n > 0 {
			if x, there := words.Select(w, n-1); x != list[n-1] || !there {
				t.Errorf("Select of the last one of the set %d: %d, %v, not %d", i, x, there, list[n-1])
			}
		}
		for _, k := range []int{math.MinInt, -65536, -1, len(list), len(list) + 1, 65536, 65537, math.MaxInt} {
			if x, there := words.Select(w, k); x != 0 || there {
				t.Errorf("Select %d of the set %d of %d numbers: %d, %v", k, i, len(list), x, there)
			}
		}
	}
}

func TestRunsTellsWhatItIsTold(t *testing.T) {
	cases := []struct {
		a []uint16
		n int
	}{
		{[]uint16{1, 2, 3, 7, 9, 10}, 3},
		{nil, 0},
		{[]uint16{0}, 1},
		{[]uint16{63}, 1},
		{[]uint16{64}, 1},
		{[]uint16{65535}, 1},
		{[]uint16{0, 65535}, 2},
		{[]uint16{63, 64}, 1},
		{[]uint16{62, 64}, 2},
		{[]uint16{63, 65}, 2},
		{[]uint16{0, 64}, 2},
		{[]uint16{63, 127}, 2},
		{[]uint16{63, 128}, 2},
		{[]uint16{65534, 65535}, 1},
		{[]uint16{65471, 65472}, 1},
		{every(60, 70, 1), 1},
		{every(0, 64, 1), 1},
		{every(0, 128, 1), 1},
		{every(10, 1000, 1), 1},
		{every(0, api.Container, 1), 1},
		{every(0, api.Container, 2), 32768},
		{every(1, api.Container, 2), 32768},
		{others(0), 512},
		{others(1), 512},
	}
	for _, c := range cases {
		if n := words.Runs(setOf(c.a).words()); n != c.n {
			t.Errorf("%d numbers, %v first, have %d runs, not %d", len(c.a), c.a[:min(len(c.a), 6)], n, c.n)
		}
	}
}

func TestRunsCountsRuns(t *testing.T) {
	for i, l := range slices.Concat(few(), many()) {
		s := setOf(l)
		if n := words.Runs(s.words()); n != s.runs() {
			t.Errorf("the set %d has %d runs, not %d", i, n, s.runs())
		}
	}
}

// P5.2

// pair is a call of two sets, its name, and by the chapter's words whether it takes a number.
type pair struct {
	name  string
	call  func(a, b []uint64) []uint64
	takes func(inA, inB bool) bool
}

// pairs are the calls of two sets.
func pairs() []pair {
	return []pair{
		{"And", words.And, func(inA, inB bool) bool { return inA && inB }},
		{"Or", words.Or, func(inA, inB bool) bool { return inA || inB }},
		{"AndNot", words.AndNot, func(inA, inB bool) bool { return inA && !inB }},
		{"Xor", words.Xor, func(inA, inB bool) bool { return inA != inB }},
	}
}

// paired is what a pair's call is to tell of a and b.
func paired(a, b *set, takes func(inA, inB bool) bool) *set {
	var s set
	for x := range s {
		s[x] = takes(a[x], b[x])
	}
	return &s
}

func TestPairsTellWhatTheyAreTold(t *testing.T) {
	all := every(0, api.Container, 1)
	cases := []struct {
		a, b []uint16
		want [4][]uint16 // of And, Or, AndNot, Xor
	}{
		{[]uint16{1, 2}, []uint16{2, 3}, [4][]uint16{{2}, {1, 2, 3}, {1}, {1, 3}}},
		{nil, nil, [4][]uint16{}},
		{nil, []uint16{0, 65535}, [4][]uint16{1: {0, 65535}, 3: {0, 65535}}},
		{[]uint16{0, 65535}, nil, [4][]uint16{1: {0, 65535}, 2: {0, 65535}, 3: {0, 65535}}},
		{[]uint16{63, 64}, []uint16{64, 65}, [4][]uint16{{64}, {63, 64, 65}, {63}, {63, 65}}},
		{[]uint16{0}, []uint16{65535}, [4][]uint16{1: {0, 65535}, 2: {0}, 3: {0, 65535}}},
		{all, []uint16{0, 65535}, [4][]uint16{{0, 65535}, all, all[1:65535], all[1:65535]}},
		{[]uint16{0, 65535}, all, [4][]uint16{{0, 65535}, all, nil, all[1:65535]}},
		{all, all, [4][]uint16{all, all, nil, nil}},
		{all, nil, [4][]uint16{nil, all, all, all}},
	}
	for i, c := range cases {
		for k, p := range pairs() {
			if w := p.call(setOf(c.a).words(), setOf(c.b).words()); !slices.Equal(w, setOf(c.want[k]).words()) {
				t.Errorf("%s of the sets %d: %d words that are not its", p.name, i, len(w))
			}
		}
	}
}

func TestPairsOfFewNumbers(t *testing.T) {
	all := few()
	var sets [][]uint64
	for _, l := range all {
		sets = append(sets, setOf(l).words())
	}
	for _, p := range pairs() {
		for i, a := range sets {
			for k, b := range sets {
				want := 0 // which of the sets it is to be
				for bit := range all[len(all)-1] {
					if p.takes(i>>bit&1 == 1, k>>bit&1 == 1) {
						want |= 1 << bit
					}
				}
				if w := p.call(a, b); !slices.Equal(w, sets[want]) {
					t.Errorf("%s of %v and %v is not %v", p.name, all[i], all[k], all[want])
				}
			}
		}
	}
}

func TestPairsOfManyNumbers(t *testing.T) {
	for _, p := range pairs() {
		for i, a := range many() {
			for k, b := range many() {
				w := p.call(setOf(a).words(), setOf(b).words())
				if !slices.Equal(w, paired(setOf(a), setOf(b), p.takes).words()) {
					t.Errorf("%s of the sets %d and %d: %d words that are not its", p.name, i, k, len(w))
				}
			}
		}
	}
}

func TestTheSameSetTwice(t *testing.T) {
	none := make([]uint64, wordCount)
	for i, l := range many() {
		a := setOf(l).words()
		want := slices.Clone(a)
		if !slices.Equal(words.And(a, a), want) || !slices.Equal(words.Or(a, a), want) {
			t.Errorf("And or Or of the set %d and itself is not it", i)
		}
		if !slices.Equal(words.AndNot(a, a), none) || !slices.Equal(words.Xor(a, a), none) {
			t.Errorf("AndNot or Xor of the set %d and itself has numbers", i)
		}
	}
}

func TestFlipTellsWhatItIsTold(t *testing.T) {
	all := every(0, api.Container, 1)
	cases := []struct {
		a      []uint16
		lo, hi int
		want   []uint16
	}{
		{[]uint16{1}, 0, 3, []uint16{0, 2}},
		{[]uint16{1}, 0, 0, []uint16{1}},
		{[]uint16{1}, 1, 1, []uint16{1}},
		{[]uint16{1}, 3, 0, []uint16{1}},
		{[]uint16{1}, 1, 2, nil},
		{[]uint16{1}, 0, 1, []uint16{0, 1}},
		{[]uint16{1}, -5, 1, []uint16{0, 1}},
		{[]uint16{1}, -5, 0, []uint16{1}},
		{[]uint16{1}, -5, -1, []uint16{1}},
		{[]uint16{1}, math.MinInt, 2, []uint16{0}},
		{[]uint16{1}, 65536, 65537, []uint16{1}},
		{[]uint16{1}, 65536, math.MaxInt, []uint16{1}},
		{[]uint16{1}, math.MaxInt, math.MinInt, []uint16{1}},
		{[]uint16{1}, 65535, 65536, []uint16{1, 65535}},
		{[]uint16{1}, 65535, math.MaxInt, []uint16{1, 65535}},
		{[]uint16{1}, 65535, 65535, []uint16{1}},
		{nil, 10, 13, []uint16{10, 11, 12}},
		{nil, 63, 65, []uint16{63, 64}},
		{nil, 63, 64, []uint16{63}},
		{nil, 64, 65, []uint16{64}},
		{nil, 0, 64, every(0, 64, 1)},
		{nil, 64, 128, every(64, 128, 1)},
		{nil, 5, 1000, every(5, 1000, 1)},
		{every(5, 1000, 1), 10, 900, slices.Concat(every(5, 10, 1), every(900, 1000, 1))},
		{nil, 0, 65536, all},
		{all, 0, 65536, nil},
		{nil, math.MinInt, math.MaxInt, all},
		{all, math.MinInt, math.MaxInt, nil},
		{all, 1, 65535, []uint16{0, 65535}},
	}
	for _, c := range cases {
		if w := words.Flip(setOf(c.a).words(), c.lo, c.hi); !slices.Equal(w, setOf(c.want).words()) {
			t.Errorf("Flip of %d numbers, %v first, from %d to %d: %d words that are not its", len(c.a), c.a[:min(len(c.a), 6)], c.lo, c.hi, len(w))
		}
	}
}

func TestFlipOfManyNumbers(t *testing.T) {
	for i, l := range many() {
		s := setOf(l)
		w := s.words()
		for _, lo := range places() {
			for _, hi := range places() {
				f := words.Flip(w, lo, hi)
				if len(f) != wordCount || !slices.Equal(f, flippedWords(w, lo, hi)) {
					t.Fatalf("Flip of the set %d from %d to %d: %d words that are not its", i, lo, hi, len(f))
				}
				if !slices.Equal(words.Flip(f, lo, hi), w) {
					t.Fatalf("the set %d, flipped twice from %d to %d, is not what it was", i, lo, hi)
				}
			}
		}
		if f := words.Flip(w, 100, 1000); !slices.Equal(f, s.flipped(100, 1000).words()) {
			t.Errorf("Flip of the set %d from 100 to 1000: words that are not its", i)
		}
	}
}

// flippedWords is what Flip is to tell, of words, number by number.
func flippedWords(w []uint64, lo, hi int) []uint64 {
	f := slices.Clone(w)
	for x := max(lo, 0); x < min(hi, api.Container); x++ {
		f[x/64] ^= uint64(1) << (x % 64)
	}
	return f
}

// P5.1, P5.2: all calls end, what is handed in stays, what is told has memory of its own.

func TestCallsEndAtOtherRows(t *testing.T) {
	rows := slices.Concat(noSets(), [][]uint64{make([]uint64, wordCount), ones(wordCount)})
	for _, w := range rows {
		words.Len(w)
		words.Runs(w)
		words.List(w)
		for _, x := range []uint16{0, 63, 64, 65471, 65472, 65535} {
			words.Has(w, x)
		}
		for _, x := range places() {
			words.Rank(w, x)
			words.Select(w, x)
		}
		for _, lo := range places() {
			for _, hi := range places() {
				words.Flip(w, lo, hi)
			}
		}
		for _, o := range rows {
			for _, p := range pairs() {
				p.call(w, o)
			}
		}
	}
}

func TestOfEndsAtLongRows(t *testing.T) {
	a := slices.Concat(mixed(300000, 5), every(0, api.Container, 1), make([]uint16, 100000))
	if w := words.Of(a); !slices.Equal(w, ones(wordCount)) {
		t.Error("Of more numbers than there are, all among them, is not the set of all")
	}
}

// roomy is a row with room behind it, in which there stands what is not its.
func roomy[T any](a []T, behind T) (l, whole []T) {
	whole = append(slices.Clone(a), behind, behind, behind)
	return whole[:len(a)], whole
}

func TestWhatIsHandedInStays(t *testing.T) {
	a, wholeA := roomy([]uint16{9, 1, 5, 1}, 11111)
	words.Of(a)
	if !slices.Equal(wholeA, []uint16{9, 1, 5, 1, 11111, 11111, 11111}) {
		t.Errorf("Of changed what it was handed: %v", wholeA)
	}
	for i, l := range many() {
		w, wholeW := roomy(setOf(l).words(), 22222)
		o, wholeO := roomy(setOf(mixed(3000, 6)).words(), 33333)
		wasW, wasO := slices.Clone(wholeW), slices.Clone(wholeO)
		words.List(w)
		words.Len(w)
		words.Has(w, 63)
		words.Rank(w, 65536)
		words.Select(w, words.Len(w)-1)
		words.Runs(w)
		words.Flip(w, -1, 65537)
		words.Flip(w, 10, 20)
		words.Flip(w, 5, 5)
		for _, p := range pairs() {
			p.call(w, o)
			p.call(w, w)
		}
		if !slices.Equal(wholeW, wasW) || !slices.Equal(wholeO, wasO) {
			t.Errorf("calls changed the set %d or the one that it was paired with", i)
		}
	}
}

// spoil changes all the words of a row, and those in the room behind it.
func spoil(w []uint64) {
	w = w[:cap(w)]
	for i := range w {
		w[i] = ^w[i]
	}
}

func TestWhatIsToldHasMemoryOfItsOwn(t *testing.T) {
	calls := map[string]func(a, b []uint64) []uint64{
		"Flip":         func(a, _ []uint64) []uint64 { return words.Flip(a, 10, 1000) },
		"Flip of none": func(a, _ []uint64) []uint64 { return words.Flip(a, 7, 7) },
		"Flip outside": func(a, _ []uint64) []uint64 { return words.Flip(a, 65536, math.MaxInt) },
	}
	for _, p := range pairs() {
		calls[p.name] = p.call
		calls[p.name+" of one set twice"] = func(a, _ []uint64) []uint64 { return p.call(a, a) }
	}
	cases := [][2][]uint16{{mixed(500, 7), mixed(500, 8)}, {nil, mixed(500, 7)}, {mixed(500, 7), nil}, {every(0, api.Container, 1), {63, 64}}, {nil, nil}}
	for name, call := range calls {
		for i, c := range cases {
			a, wholeA := roomy(setOf(c[0]).words(), 22222)
			b, wholeB := roomy(setOf(c[1]).words(), 33333)
			wasA, wasB := slices.Clone(wholeA), slices.Clone(wholeB)
			w, again := call(a, b), call(a, b)
			want := slices.Clone(w)
			spoil(w)
			if !slices.Equal(wholeA, wasA) || !slices.Equal(wholeB, wasB) {
				t.Errorf("what %s told of the sets %d was changed, and so was what it was handed", name, i)
			}
			if !slices.Equal(again, want) {
				t.Errorf("what %s told of the sets %d was changed, and so was what it told again", name, i)
			}
			spoil(wholeA)
			spoil(wholeB)
			if !slices.Equal(again, want) {
				t.Errorf("what %s was handed, the sets %d, was changed, and so was what it told", name, i)
			}
		}
	}
}

func TestOfHasMemoryOfItsOwn(t *testing.T) {
	a := []uint16{9, 1, 5}
	w := words.Of(a)
	want := slices.Clone(w)
	a[0], a[1], a[2] = 100, 200, 300
	if !slices.Equal(w, want) {
		t.Error("what Of was handed was changed, and so was what it told")
	}
	spoil(w)
	if none := words.Of(nil); !slices.Equal(none, make([]uint64, wordCount)) {
		t.Error("what Of told was changed, and so was what it told next")
	}
}

func TestListHasMemoryOfItsOwn(t *testing.T) {
	w := setOf([]uint16{1, 5, 9}).words()
	was := slices.Clone(w)
	l, again := words.List(w), words.List(w)
	l = l[:cap(l)]
	for i := range l {
		l[i] = 7777
	}
	if !slices.Equal(w, was) || !slices.Equal(again, []uint16{1, 5, 9}) {
		t.Error("what List told was changed, and so was what it was handed, or told again")
	}
	spoil(w)
	if !slices.Equal(again, []uint16{1, 5, 9}) {
		t.Error("what List was handed was changed, and so was what it told")
	}
}

func TestASetIsThatOfItsList(t *testing.T) {
	for i, l := range many() {
		w := setOf(l).words()
		if !slices.Equal(words.Of(words.List(w)), w) {
			t.Errorf("Of the list of the set %d is not the set", i)
		}
	}
}
