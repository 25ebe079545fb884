package container_test

import (
	"math"
	"slices"
	"testing"

	"isinglass/api"
	"isinglass/container"
)

// set is a set told number by number: an account that needs no container.
type set [api.Container]bool

// setOf is the set of some numbers.
func setOf(l []uint16) *set {
	var s set
	for _, x := range l {
		s[x] = true
	}
	return &s
}

// array is the numbers that s has, rising.
func (s *set) array() []uint16 {
	var l []uint16
	for x, there := range s {
		if there {
			l = append(l, uint16(x))
		}
	}
	return l
}

// words is s as 1024 words: the number x is the bit x mod 64 of the word x / 64.
func (s *set) words() []uint64 {
	w := make([]uint64, 1024)
	for x, there := range s {
		if there {
			w[x/64] |= 1 << (x % 64)
		}
	}
	return w
}

// runs is the right runs of s: each begins where the number ahead is not there.
func (s *set) runs() []api.Run {
	var r []api.Run
	ahead := false
	for x, there := range s {
		switch {
		case there && ahead:
			r[len(r)-1].More++
		case there:
			r = append(r, api.Run{First: uint16(x)})
		}
		ahead = there
	}
	return r
}

// flipped is s, but that the numbers from lo on, below hi, are there just if they were not.
func (s *set) flipped(lo, hi int) *set {
	f := *s
	for x := max(lo, 0); x < min(hi, len(f)); x++ {
		f[x] = !f[x]
	}
	return &f
}

// with is s with x.
func (s *set) with(x uint16) *set {
	f := *s
	f[x] = true
	return &f
}

// kind is by the chapter's words the canonical kind of c numbers in r runs.
func kind(c, r int) uint8 {
	switch {
	case c <= 4096 && 2+4*r < 2*c, c > 4096 && 2+4*r < 8192:
		return api.Runs
	case c <= 4096:
		return api.Arrays
	default:
		return api.Words
	}
}

// size is by the chapter's words the size of c numbers in r runs, of a kind.
func size(kind uint8, c, r int) int {
	switch kind {
	case api.Arrays:
		return 2 * c
	case api.Words:
		return 8192
	default:
		return 2 + 4*r
	}
}

// row is runs, written down: of each the first number, and how many more there are.
type row [][2]uint16

// runs is what r writes down.
func (r row) runs() []api.Run {
	var l []api.Run
	for _, run := range r {
		l = append(l, api.Run{First: run[0], More: run[1]})
	}
	return l
}

// every is every step-th number, from the first one on, below the end.
func every(from, to, step int) []uint16 {
	var l []uint16
	for x := from; x < to; x += step {
		l = append(l, uint16(x))
	}
	return l
}

// numbers are c of them in r runs, of which all but the last one are single.
func numbers(c, r int) []uint16 {
	l := every(0, 2*(r-1), 2)
	return append(l, every(2*(r-1), 2*(r-1)+c-(r-1), 1)...)
}

// mixed is some n numbers here and there by a short rule, rising.
func mixed(n int, seed uint64) []uint16 {
	l := make([]uint16, n)
	for i := range l {
		seed = seed*6364136223846793005 + 1442695040888963407
		l[i] = uint16(seed >> 40)
	}
	slices.Sort(l)
	return slices.Compact(l)
}

// many are numbers of many sets, rising: of none, of all, of few, of as many as the canonical kind changes at, mixed ones.
func many() [][]uint16 {
	return [][]uint16{
		nil,
		{0},
		{65535},
		{0, 65535},
		{1, 2, 3},
		{1, 2, 3, 4},
		{1, 2, 3, 7, 9, 10},
		{62, 63, 64, 65, 127, 128, 65534, 65535},
		every(0, api.Container, 1),
		every(1, api.Container-1, 1),
		every(0, api.Container, 2),
		every(1, api.Container, 2),
		every(1, 2*4096, 2),
		every(0, 2*4097, 2),
		every(30000, 30000+4096, 1),
		numbers(4095, 2047),
		numbers(4096, 2047),
		numbers(4096, 2048),
		numbers(5000, 2047),
		numbers(5000, 2048),
		slices.Concat(every(10, 20, 1), every(21, 64, 1), every(65, 128, 1), every(65500, api.Container, 1)),
		mixed(100, 1),
		mixed(4000, 2),
		mixed(40000, 3),
		mixed(200000, 4),
	}
}

// near are all the sets' numbers of some five numbers in a row, from the first one on: by a set's place in the row, bit by bit, stands which of them it has.
func near(first int) [][]uint16 {
	l := make([][]uint16, 1<<5)
	for i := range l {
		for k := range 5 {
			if i>>k&1 == 1 {
				l[i] = append(l[i], uint16(first+k))
			}
		}
	}
	return l
}

// must is what a call told beside true.
func must(t *testing.T, name string) func(c container.Container, ok bool) container.Container {
	return func(c container.Container, ok bool) container.Container {
		t.Helper()
		if !ok {
			t.Fatal(name, "is false of a row that may be")
		}
		return c
	}
}

// each is s as a container of each kind, in the kinds' order.
func each(t *testing.T, s *set) []container.Container {
	t.Helper()
	return []container.Container{
		must(t, "OfArray")(container.OfArray(s.array())),
		must(t, "OfWords")(container.OfWords(s.words())),
		must(t, "OfRuns")(container.OfRuns(s.runs())),
	}
}

// checkSet tells whether c's rows are those of s.
func checkSet(t *testing.T, name string, c container.Container, s *set) {
	t.Helper()
	if l := c.Array(); !slices.Equal(l, s.array()) {
		t.Errorf("%s: Array is %d numbers that are not the set's, %v first", name, len(l), l[:min(len(l), 6)])
	}
	if w := c.Words(); !slices.Equal(w, s.words()) {
		t.Errorf("%s: Words is %d words that are not the set's", name, len(w))
	}
	if r := c.Runs(); !slices.Equal(r, s.runs()) {
		t.Errorf("%s: Runs is %d runs that are not the set's, %v first", name, len(r), r[:min(len(r), 6)])
	}
}

// checkCanonical tells whether c is the canonical container of s.
func checkCanonical(t *testing.T, name string, c container.Container, s *set) {
	t.Helper()
	a, r := s.array(), s.runs()
	if l := c.Array(); !slices.Equal(l, a) {
		t.Errorf("%s: %d numbers that are not its, %v first, not %d, %v first", name, len(l), l[:min(len(l), 6)], len(a), a[:min(len(a), 6)])
	}
	want := kind(len(a), len(r))
	if c.Kind() != want || c.Size() != size(want, len(a), len(r)) || c.Len() != len(a) {
		t.Errorf("%s: the kind %d, %d bytes, %d numbers, not the kind %d, %d bytes, %d numbers", name, c.Kind(), c.Size(), c.Len(), want, size(want, len(a), len(r)), len(a))
	}
}

// P7.1

func TestOfArray(t *testing.T) {
	for i, l := range many() {
		c := must(t, "OfArray")(container.OfArray(l))
		if c.Kind() != api.Arrays {
			t.Errorf("OfArray of the set %d: the kind %d", i, c.Kind())
		}
		checkSet(t, "OfArray", c, setOf(l))
	}
}

func TestOfWords(t *testing.T) {
	for i, l := range many() {
		c := must(t, "OfWords")(container.OfWords(setOf(l).words()))
		if c.Kind() != api.Words {
			t.Errorf("OfWords of the set %d: the kind %d", i, c.Kind())
		}
		checkSet(t, "OfWords", c, setOf(l))
	}
}

func TestOfRuns(t *testing.T) {
	for i, l := range many() {
		c := must(t, "OfRuns")(container.OfRuns(setOf(l).runs()))
		if c.Kind() != api.Runs {
			t.Errorf("OfRuns of the set %d: the kind %d", i, c.Kind())
		}
		checkSet(t, "OfRuns", c, setOf(l))
	}
}

// checkNone tells whether what a call told is the zero Container and false.
func checkNone(t *testing.T, name string, c container.Container, ok bool) {
	t.Helper()
	if ok {
		t.Errorf("%s: true", name)
	}
	if c.Kind() != api.Arrays || c.Len() != 0 || c.Size() != 0 {
		t.Errorf("%s: beside false there is not the zero Container", name)
	}
}

func TestOfArrayRefusesRowsThatAreNoArrays(t *testing.T) {
	rows := [][]uint16{{0, 0}, {1, 0}, {65535, 65535}, {65535, 0}, {1, 2, 2}, {1, 2, 1}, {3, 2, 5}, {1, 2, 3, 4, 6, 5}, make([]uint16, 70000), slices.Repeat(every(0, api.Container, 1), 2)}
	for _, a := range rows {
		c, ok := container.OfArray(a)
		checkNone(t, "OfArray of a row that does not rise", c, ok)
	}
	for i := range 4096 {
		a := every(10, 10+4097, 1)
		a[i+1] = a[i]
		if _, ok := container.OfArray(a); ok {
			t.Errorf("OfArray is true, though the numbers %d and %d are one", i, i+1)
		}
	}
}

func TestOfWordsRefusesRowsOfOtherLengths(t *testing.T) {
	for _, n := range []int{0, 1, 64, 512, 1022, 1023, 1025, 1026, 2048, 65536} {
		for _, word := range []uint64{0, 5, math.MaxUint64} {
			c, ok := container.OfWords(slices.Repeat([]uint64{word}, n))
			checkNone(t, "OfWords of a row that is not 1024 words", c, ok)
		}
	}
	c, ok := container.OfWords(nil)
	checkNone(t, "OfWords of no row", c, ok)
}

func TestOfRunsRefusesRowsThatAreNotRight(t *testing.T) {
	rows := []row{
		{{1, 65535}},
		{{65535, 1}},
		{{32768, 32768}},
		{{0, 5}, {65535, 1}},
		{{0, 65535}, {65535, 0}},
		{{0, 0}, {1, 0}},
		{{0, 5}, {6, 0}},
		{{65534, 0}, {65535, 0}},
		{{0, 5}, {3, 7}},
		{{0, 5}, {2, 1}},
		{{0, 5}, {0, 5}},
		{{7, 0}, {7, 0}},
		{{7, 0}, {3, 0}},
		{{1, 1}, {5, 1}, {7, 1}},
		{{10, 65530}, {12, 0}},
		slices.Repeat(row{{0, 65535}}, 70000),
	}
	for _, r := range rows {
		c, ok := container.OfRuns(r.runs())
		checkNone(t, "OfRuns of runs that are not right", c, ok)
	}
}

// P7.2

func TestTheExamples(t *testing.T) {
	cases := []struct {
		l    []uint16
		kind uint8
		size int
	}{
		{[]uint16{1, 2, 3}, api.Arrays, 6},
		{[]uint16{1, 2, 3, 4}, api.Runs, 6},
		{every(0, api.Container, 1), api.Runs, 6},
	}
	for _, c := range cases {
		for _, of := range each(t, setOf(c.l)) {
			made := of.Canonical()
			if made.Kind() != c.kind || made.Size() != c.size {
				t.Errorf("canonical of %d numbers: the kind %d of %d bytes, not %d of %d", len(c.l), made.Kind(), made.Size(), c.kind, c.size)
			}
		}
	}
}

func TestTheZeroContainerIsOfNone(t *testing.T) {
	var zero container.Container
	if zero.Kind() != 1 || zero.Len() != 0 || zero.Size() != 0 || zero.Has(0) || zero.Has(65535) || zero.Rank(-1) != 0 || zero.Rank(65536) != 0 {
		t.Error("the zero Container has numbers, or is not of the kind Arrays")
	}
	if x, there := zero.Select(0); x != 0 || there {
		t.Error("Select 0 of the zero Container:", x, there)
	}
	none := setOf(nil)
	checkSet(t, "the zero Container", zero, none)
	checkCanonical(t, "the zero Container made canonical", zero.Canonical(), none)
	checkCanonical(t, "the zero Container with 7", zero.With(7), setOf([]uint16{7}))
	checkCanonical(t, "the zero Container flipped", zero.Flip(0, 65536), setOf(every(0, api.Container, 1)))
	for _, l := range many() {
		s := setOf(l)
		for _, c := range each(t, s) {
			checkCanonical(t, "zero And c", zero.And(c), none)
			checkCanonical(t, "c And zero", c.And(zero), none)
			checkCanonical(t, "zero Or c", zero.Or(c), s)
			checkCanonical(t, "c Or zero", c.Or(zero), s)
			checkCanonical(t, "zero AndNot c", zero.AndNot(c), none)
			checkCanonical(t, "c AndNot zero", c.AndNot(zero), s)
			checkCanonical(t, "zero Xor c", zero.Xor(c), s)
			checkCanonical(t, "c Xor zero", c.Xor(zero), s)
		}
	}
}

func TestKindsAreNumbered(t *testing.T) {
	for i, c := range each(t, setOf([]uint16{1, 5, 9})) {
		if c.Kind() != uint8(i+1) {
			t.Errorf("the kind %d, not %d", c.Kind(), i+1)
		}
	}
}

func TestSizeIsThatOfTheKind(t *testing.T) {
	for i, l := range many() {
		s := setOf(l)
		for _, c := range each(t, s) {
			if want := size(c.Kind(), len(l), len(s.runs())); c.Size() != want {
				t.Errorf("Size of the set %d, of the kind %d: %d, not %d", i, c.Kind(), c.Size(), want)
			}
		}
	}
	for i, want := range []int{0, 8192, 2} {
		if c := each(t, setOf(nil))[i]; c.Size() != want {
			t.Errorf("Size of none, of the kind %d: %d, not %d", c.Kind(), c.Size(), want)
		}
	}
	for i, want := range []int{12, 8192, 14} {
		if c := each(t, setOf([]uint16{1, 2, 3, 7, 9, 10}))[i]; c.Size() != want {
			t.Errorf("Size of 1 2 3 7 9 10, of the kind %d: %d, not %d", c.Kind(), c.Size(), want)
		}
	}
	for i, want := range []int{131072, 8192, 6} {
		if c := each(t, setOf(every(0, api.Container, 1)))[i]; c.Size() != want {
			t.Errorf("Size of all, of the kind %d: %d, not %d", c.Kind(), c.Size(), want)
		}
	}
}

func TestLenAndHas(t *testing.T) {
	for i, l := range many() {
		s := setOf(l)
		for _, c := range each(t, s) {
			if c.Len() != len(l) {
				t.Errorf("Len of the set %d, of the kind %d: %d, not %d", i, c.Kind(), c.Len(), len(l))
			}
			for x := range s {
				if c.Has(uint16(x)) != s[x] {
					t.Errorf("Has of the set %d, of the kind %d: %d is not told as it is", i, c.Kind(), x)
					break
				}
			}
		}
	}
}

func TestRankTellsWhatItIsTold(t *testing.T) {
	cases := []struct {
		l    []uint16
		x, n int
	}{
		{[]uint16{1, 5, 9}, math.MinInt, 0},
		{[]uint16{1, 5, 9}, -65535, 0},
		{[]uint16{1, 5, 9}, -1, 0},
		{[]uint16{1, 5, 9}, 0, 0},
		{[]uint16{1, 5, 9}, 1, 0},
		{[]uint16{1, 5, 9}, 2, 1},
		{[]uint16{1, 5, 9}, 6, 2},
		{[]uint16{1, 5, 9}, 9, 2},
		{[]uint16{1, 5, 9}, 10, 3},
		{[]uint16{1, 5, 9}, 65535, 3},
		{[]uint16{1, 5, 9}, 65536, 3},
		{[]uint16{1, 5, 9}, 65537, 3},
		{[]uint16{1, 5, 9}, 65538, 3},
		{[]uint16{1, 5, 9}, math.MaxInt, 3},
		{[]uint16{0, 65535}, -1, 0},
		{[]uint16{0, 65535}, 0, 0},
		{[]uint16{0, 65535}, 1, 1},
		{[]uint16{0, 65535}, 65535, 1},
		{[]uint16{0, 65535}, 65536, 2},
		{[]uint16{0, 65535}, 65537, 2},
		{nil, -1, 0},
		{nil, 0, 0},
		{nil, 65536, 0},
		{nil, math.MaxInt, 0},
		{every(0, api.Container, 1), -1, 0},
		{every(0, api.Container, 1), 0, 0},
		{every(0, api.Container, 1), 65535, 65535},
		{every(0, api.Container, 1), 65536, 65536},
		{every(0, api.Container, 1), 65537, 65536},
	}
	for _, c := range cases {
		for _, of := range each(t, setOf(c.l)) {
			if n := of.Rank(c.x); n != c.n {
				t.Errorf("Rank of %v, of the kind %d, below %d: %d, not %d", c.l[:min(len(c.l), 6)], of.Kind(), c.x, n, c.n)
			}
		}
	}
}

func TestRankCountsWhatIsBelow(t *testing.T) {
	for i, l := range many() {
		s := setOf(l)
		for _, c := range each(t, s) {
			n := 0
			for x := range s {
				if x%97 == 0 || x < 70 || x > 65470 {
					if got := c.Rank(x); got != n {
						t.Fatalf("Rank of the set %d, of the kind %d, below %d: %d, not %d", i, c.Kind(), x, got, n)
					}
				}
				if s[x] {
					n++
				}
			}
		}
	}
}

func TestSelectTellsEachNumber(t *testing.T) {
	for i, l := range many() {
		for _, c := range each(t, setOf(l)) {
			asked := []int{0, 1, len(l) - 1}
			for k := 0; k < len(l); k += 1 + len(l)/700 {
				asked = append(asked, k)
			}
			for _, k := range asked {
				if k < 0 || k >= len(l) {
					continue
				}
				if x, there := c.Select(k); x != l[k] || !there {
					t.Fatalf("Select %d of the set %d, of the kind %d: %d, %v, not %d", k, i, c.Kind(), x, there, l[k])
				}
			}
			for _, k := range []int{math.MinInt, -65536, -1, len(l), len(l) + 1, 65536, 65537, math.MaxInt} {
				if x, there := c.Select(k); x != 0 || there {
					t.Errorf("Select %d of the set %d of %d numbers, of the kind %d: %d, %v", k, i, len(l), c.Kind(), x, there)
				}
			}
		}
	}
}

func TestNearNumbersOfEachKind(t *testing.T) {
	for _, first := range []int{0, 62, api.Container - 5} {
		for _, l := range near(first) {
			s := setOf(l)
			for _, c := range each(t, s) {
				checkSet(t, "near numbers", c, s)
				checkCanonical(t, "near numbers made canonical", c.Canonical(), s)
			}
		}
	}
}

func TestTheCanonicalKindAtItsEdges(t *testing.T) {
	cases := []struct {
		c, r int
		kind uint8
		size int
	}{
		{1, 1, api.Arrays, 2},
		{2, 1, api.Arrays, 4},
		{2, 2, api.Arrays, 4},
		{3, 1, api.Arrays, 6}, // as much as its run
		{4, 1, api.Runs, 6},
		{4, 2, api.Arrays, 8},
		{5, 1, api.Runs, 6},
		{5, 2, api.Arrays, 10}, // as much as its runs
		{5, 3, api.Arrays, 10},
		{6, 2, api.Runs, 10},
		{201, 99, api.Runs, 398},
		{201, 100, api.Arrays, 402}, // as much
		{201, 101, api.Arrays, 402},
		{4095, 2046, api.Runs, 8186},
		{4095, 2047, api.Arrays, 8190}, // as much
		{4095, 2048, api.Arrays, 8190},
		{4095, 4095, api.Arrays, 8190},
		{4096, 1, api.Runs, 6},
		{4096, 2046, api.Runs, 8186},
		{4096, 2047, api.Runs, 8190},
		{4096, 2048, api.Arrays, 8192},
		{4096, 4096, api.Arrays, 8192},
		{4097, 1, api.Runs, 6},
		{4097, 2046, api.Runs, 8186},
		{4097, 2047, api.Runs, 8190}, // the most runs that are less than 8192 bytes
		{4097, 2048, api.Words, 8192},
		{4097, 2049, api.Words, 8192},
		{4097, 4097, api.Words, 8192},
		{40000, 2047, api.Runs, 8190},
		{40000, 2048, api.Words, 8192},
		{63488, 2047, api.Runs, 8190},
		{63488, 2048, api.Words, 8192},
		{65536, 1, api.Runs, 6},
		{65535, 2, api.Runs, 10},
	}
	for _, c := range cases {
		l := numbers(c.c, c.r)
		if c.r == 2 && c.c == 65535 {
			l = slices.Concat([]uint16{0}, every(2, api.Container, 1))
		}
		s := setOf(l)
		if len(s.array()) != c.c || len(s.runs()) != c.r {
			t.Fatalf("the test's set of %d numbers in %d runs is none", c.c, c.r)
		}
		for _, of := range each(t, s) {
			made := of.Canonical()
			if made.Kind() != c.kind || made.Size() != c.size {
				t.Errorf("%d numbers in %d runs, of the kind %d, made canonical: the kind %d of %d bytes, not %d of %d", c.c, c.r, of.Kind(), made.Kind(), made.Size(), c.kind, c.size)
			}
			checkSet(t, "made canonical", made, s)
		}
	}
}

func TestCanonicalOfEachKind(t *testing.T) {
	for _, l := range many() {
		s := setOf(l)
		for _, c := range each(t, s) {
			made := c.Canonical()
			checkCanonical(t, "made canonical", made, s)
			checkSet(t, "made canonical", made, s)
			checkCanonical(t, "made canonical twice", made.Canonical(), s)
			checkSet(t, "what was made canonical", c, s)
		}
	}
}

func TestNoKindIsSmallerThanTheCanonicalOne(t *testing.T) {
	for i, l := range many() {
		s := setOf(l)
		all := each(t, s)
		least := all[0].Canonical().Size()
		for _, c := range all {
			if c.Kind() == api.Arrays && len(l) > api.MaxArray {
				continue
			}
			if c.Size() < least {
				t.Errorf("the set %d is smaller of the kind %d: %d bytes, not %d", i, c.Kind(), c.Size(), least)
			}
		}
	}
}

// P7.3

// pair is a call of two containers, its name, and by the chapter's words whether it takes a number.
type pair struct {
	name  string
	call  func(c, o container.Container) container.Container
	takes func(inC, inO bool) bool
}

// pairs are the calls of two containers.
func pairs() []pair {
	return []pair{
		{"And", container.Container.And, func(inC, inO bool) bool { return inC && inO }},
		{"Or", container.Container.Or, func(inC, inO bool) bool { return inC || inO }},
		{"AndNot", container.Container.AndNot, func(inC, inO bool) bool { return inC && !inO }},
		{"Xor", container.Container.Xor, func(inC, inO bool) bool { return inC != inO }},
	}
}

// paired is what a pair's call is to tell of a and b.
func paired(a, b *set, takes func(inA, inB bool) bool) *set {
	var s set
	for x := range s {
		s[x] = takes(a[x], b[x])
	}
	return &s
}

// want is a canonical container that is asked for: its kind, and its numbers.
type want struct {
	kind uint8
	l    []uint16
}

// wanted is the canonical container that is asked for of s.
func wanted(s *set) want {
	l := s.array()
	return want{kind(len(l), len(s.runs())), l}
}

// is whether c is the one that is asked for.
func (w want) is(c container.Container) bool {
	return c.Kind() == w.kind && slices.Equal(c.Array(), w.l)
}

func TestPairsTellWhatTheyAreTold(t *testing.T) {
	cases := []struct {
		name string
		call func(c, o container.Container) container.Container
		a, b []uint16
		want []uint16
		kind uint8
	}{
		{"And", container.Container.And, []uint16{1, 2, 5}, []uint16{2, 3, 5}, []uint16{2, 5}, api.Arrays},
		{"Or", container.Container.Or, []uint16{1, 2}, []uint16{3, 4}, []uint16{1, 2, 3, 4}, api.Runs},
		{"Or", container.Container.Or, []uint16{1, 2}, []uint16{2, 3}, []uint16{1, 2, 3}, api.Arrays},
		{"AndNot", container.Container.AndNot, []uint16{1, 2, 5}, []uint16{2, 3}, []uint16{1, 5}, api.Arrays},
		{"Xor", container.Container.Xor, []uint16{1, 2}, []uint16{2, 3}, []uint16{1, 3}, api.Arrays},
		{"Or", container.Container.Or, every(0, 2*4096, 2), []uint16{9000}, append(every(0, 2*4096, 2), 9000), api.Words},
		{"Or", container.Container.Or, every(0, 2*4095, 2), []uint16{9000}, append(every(0, 2*4095, 2), 9000), api.Arrays},
		{"AndNot", container.Container.AndNot, every(0, 2*4097, 2), []uint16{0}, every(2, 2*4097, 2), api.Arrays},
		{"And", container.Container.And, every(0, api.Container, 2), every(1, api.Container, 2), nil, api.Arrays},
		{"Or", container.Container.Or, every(0, api.Container, 2), every(1, api.Container, 2), every(0, api.Container, 1), api.Runs},
		{"Xor", container.Container.Xor, every(0, api.Container, 1), every(1, api.Container, 2), every(0, api.Container, 2), api.Words},
	}
	for i, c := range cases {
		for _, a := range each(t, setOf(c.a)) {
			for _, b := range each(t, setOf(c.b)) {
				if got := c.call(a, b); !(want{c.kind, c.want}).is(got) {
					t.Errorf("%s, the case %d, of the kinds %d and %d: %d numbers of the kind %d", c.name, i, a.Kind(), b.Kind(), got.Len(), got.Kind())
				}
			}
		}
	}
}

func TestPairsOfNearNumbers(t *testing.T) {
	for _, first := range []int{0, 62, api.Container - 5} {
		var all [][]container.Container
		var wants []want
		for _, l := range near(first) {
			all = append(all, each(t, setOf(l)))
			wants = append(wants, wanted(setOf(l)))
		}
		for _, p := range pairs() {
			for i := range all {
				for k := range all {
					which := 0 // which of the sets it is to be
					for bit := range 5 {
						if p.takes(i>>bit&1 == 1, k>>bit&1 == 1) {
							which |= 1 << bit
						}
					}
					checkPairs(t, p, all[i], all[k], wants[which])
				}
			}
		}
	}
}

// checkPairs tells whether a pair's call is right of all nine pairs of kinds.
func checkPairs(t *testing.T, p pair, a, b []container.Container, w want) {
	t.Helper()
	for _, c := range a {
		for _, o := range b {
			if got := p.call(c, o); !w.is(got) {
				t.Errorf("%s of %d numbers of the kind %d, %d of the kind %d: %d of the kind %d, not %d of the kind %d", p.name, c.Len(), c.Kind(), o.Len(), o.Kind(), got.Len(), got.Kind(), len(w.l), w.kind)
			}
		}
	}
}

func TestPairsOfManyNumbers(t *testing.T) {
	var sets []*set
	var all [][]container.Container
	for _, l := range many() {
		sets = append(sets, setOf(l))
		all = append(all, each(t, setOf(l)))
	}
	for _, p := range pairs() {
		for i := range all {
			for k := range all {
				checkPairs(t, p, all[i], all[k], wanted(paired(sets[i], sets[k], p.takes)))
			}
		}
	}
}

func TestFlipTellsWhatItIsTold(t *testing.T) {
	all := every(0, api.Container, 1)
	cases := []struct {
		l      []uint16
		lo, hi int
		want   []uint16
		kind   uint8
	}{
		{[]uint16{1}, 0, 3, []uint16{0, 2}, api.Arrays},
		{[]uint16{1, 2, 3}, 4, 5, []uint16{1, 2, 3, 4}, api.Runs},
		{[]uint16{1, 2, 3, 4}, 4, 5, []uint16{1, 2, 3}, api.Arrays},
		{[]uint16{1, 2, 3}, 2, 2, []uint16{1, 2, 3}, api.Arrays},
		{[]uint16{1, 2, 3}, 3, 1, []uint16{1, 2, 3}, api.Arrays},
		{[]uint16{1, 2, 3, 4}, math.MaxInt, math.MinInt, []uint16{1, 2, 3, 4}, api.Runs},
		{[]uint16{1}, -5, 0, []uint16{1}, api.Arrays},
		{[]uint16{1}, math.MinInt, 3, []uint16{0, 2}, api.Arrays},
		{[]uint16{1}, 65536, math.MaxInt, []uint16{1}, api.Arrays},
		{[]uint16{1}, 65535, math.MaxInt, []uint16{1, 65535}, api.Arrays},
		{[]uint16{1}, 131072, 131075, []uint16{1}, api.Arrays},
		{nil, 0, 65536, all, api.Runs},
		{all, 0, 65536, nil, api.Arrays},
		{all, math.MinInt, math.MaxInt, nil, api.Arrays},
		{nil, 0, 4, []uint16{0, 1, 2, 3}, api.Runs},
		{nil, 7, 7, nil, api.Arrays},
		{every(0, api.Container, 2), 0, 65536, every(1, api.Container, 2), api.Words},
		{every(0, 2*4096, 2), 8192, 8193, every(0, 2*4097, 2), api.Words},
		{every(0, 2*4097, 2), 8192, 8193, every(0, 2*4096, 2), api.Arrays},
	}
	for i, c := range cases {
		for _, of := range each(t, setOf(c.l)) {
			if got := of.Flip(c.lo, c.hi); !(want{c.kind, c.want}).is(got) {
				t.Errorf("Flip, the case %d, from %d to %d, of the kind %d: %d numbers of the kind %d", i, c.lo, c.hi, of.Kind(), got.Len(), got.Kind())
			}
		}
	}
}

func TestFlipOfManyNumbers(t *testing.T) {
	ends := [][2]int{{math.MinInt, -1}, {-1, 0}, {-1, 1}, {math.MinInt, 64}, {0, 0}, {0, 1}, {1, 64}, {64, 1000}, {1000, 64}, {1000, 4096}, {0, 4096}, {4096, 65535}, {65535, 65536}, {0, 65536}, {65535, 65537}, {1000, math.MaxInt}, {math.MinInt, math.MaxInt}, {65536, 65537}, {65536, math.MaxInt}, {math.MaxInt, math.MinInt}}
	for i, l := range many() {
		s := setOf(l)
		is, all := wanted(s), each(t, s)
		for _, e := range ends {
			flipped := wanted(s.flipped(e[0], e[1]))
			for _, c := range all {
				f := c.Flip(e[0], e[1])
				if !flipped.is(f) {
					t.Fatalf("Flip of the set %d, of the kind %d, from %d to %d: %d numbers of the kind %d", i, c.Kind(), e[0], e[1], f.Len(), f.Kind())
				}
				if !is.is(f.Flip(e[0], e[1])) {
					t.Fatalf("the set %d, of the kind %d, flipped twice from %d to %d, is not what it was", i, c.Kind(), e[0], e[1])
				}
			}
		}
	}
}

func TestWithTellsWhatItIsTold(t *testing.T) {
	cases := []struct {
		l    []uint16
		x    uint16
		want []uint16
		kind uint8
	}{
		{nil, 0, []uint16{0}, api.Arrays},
		{nil, 65535, []uint16{65535}, api.Arrays},
		{[]uint16{1, 2, 3}, 4, []uint16{1, 2, 3, 4}, api.Runs},
		{[]uint16{1, 2, 3}, 0, []uint16{0, 1, 2, 3}, api.Runs},
		{[]uint16{1, 2, 3}, 3, []uint16{1, 2, 3}, api.Arrays},
		{[]uint16{1, 2, 3, 4}, 4, []uint16{1, 2, 3, 4}, api.Runs},
		{[]uint16{1, 2, 3, 4}, 6, []uint16{1, 2, 3, 4, 6}, api.Arrays},
		{[]uint16{2, 9}, 5, []uint16{2, 5, 9}, api.Arrays},
		{every(0, 2*4095, 2), 8190, every(0, 2*4096, 2), api.Arrays},
		{every(0, 2*4096, 2), 8190, every(0, 2*4096, 2), api.Arrays},
		{every(0, 2*4096, 2), 8192, every(0, 2*4097, 2), api.Words},
		{every(0, 65535, 1), 65535, every(0, 65536, 1), api.Runs},
		{every(0, 65536, 1), 7, every(0, 65536, 1), api.Runs},
	}
	for i, c := range cases {
		for _, of := range each(t, setOf(c.l)) {
			if got := of.With(c.x); !(want{c.kind, c.want}).is(got) {
				t.Errorf("With, the case %d, of the kind %d: %d numbers of the kind %d", i, of.Kind(), got.Len(), got.Kind())
			}
		}
	}
}

func TestWithOfManyNumbers(t *testing.T) {
	for i, l := range many() {
		s := setOf(l)
		asked := []uint16{0, 1, 4, 63, 64, 4096, 8190, 8192, 32767, 65534, 65535}
		if len(l) > 0 {
			asked = append(asked, l[0], l[len(l)/2], l[len(l)-1])
		}
		for _, c := range each(t, s) {
			for _, x := range asked {
				if w := c.With(x); !wanted(s.with(x)).is(w) {
					t.Errorf("the set %d, of the kind %d, with %d: %d numbers of the kind %d", i, c.Kind(), x, w.Len(), w.Kind())
				}
			}
		}
	}
}

// P7.1 to P7.3: what is handed in is not kept and stays, what is told has memory of its own, containers do not change.

// roomy is a row with room behind it, in which there stands what is not its.
func roomy[T any](a []T, behind T) (l, whole []T) {
	whole = append(slices.Clone(a), behind, behind, behind)
	return whole[:len(a)], whole
}

// spoil changes all that stands in a row, and in the room behind it.
func spoil[T any](l []T, with T) {
	l = l[:cap(l)]
	for i := range l {
		l[i] = with
	}
}

func TestWhatIsHandedInIsNotKeptAndStays(t *testing.T) {
	for _, l := range many() {
		s := setOf(l)
		a, wholeA := roomy(s.array(), 11111)
		w, wholeW := roomy(s.words(), 222)
		r, wholeR := roomy(s.runs(), api.Run{First: 333, More: 3})
		wasA, wasW, wasR := slices.Clone(wholeA), slices.Clone(wholeW), slices.Clone(wholeR)
		all := []container.Container{
			must(t, "OfArray")(container.OfArray(a)),
			must(t, "OfWords")(container.OfWords(w)),
			must(t, "OfRuns")(container.OfRuns(r)),
		}
		for _, c := range all {
			use(c)
		}
		if !slices.Equal(wholeA, wasA) || !slices.Equal(wholeW, wasW) || !slices.Equal(wholeR, wasR) {
			t.Error("what was handed in was changed")
		}
		spoil(wholeA, 7)
		spoil(wholeW, 7)
		spoil(wholeR, api.Run{First: 7, More: 7})
		for _, c := range all {
			checkSet(t, "of a row that was changed behind", c, s)
		}
	}
	a := []uint16{5, 5, 1}
	container.OfArray(a)
	r := row{{7, 3}, {0, 2}}.runs()
	container.OfRuns(r)
	if !slices.Equal(a, []uint16{5, 5, 1}) || !slices.Equal(r, row{{7, 3}, {0, 2}}.runs()) {
		t.Error("rows that were refused were changed")
	}
}

// use asks a container for all that may be asked of it.
func use(c container.Container) {
	c.Kind()
	c.Len()
	c.Size()
	c.Has(63)
	c.Rank(65536)
	c.Select(0)
	c.Array()
	c.Words()
	c.Runs()
	c.Canonical()
	c.Flip(-1, 65537)
	c.Flip(10, 20)
	c.Flip(5, 5)
	c.With(5)
	c.With(65535)
	for _, p := range pairs() {
		p.call(c, c)
		p.call(c, container.Container{})
		p.call(container.Container{}, c)
		p.call(c, c.Flip(100, 60000))
		p.call(c.Flip(100, 60000), c)
	}
}

func TestContainersDoNotChange(t *testing.T) {
	for _, l := range many() {
		s := setOf(l)
		for i, c := range each(t, s) {
			use(c)
			checkSet(t, "a container that was used", c, s)
			if c.Kind() != uint8(i+1) {
				t.Errorf("a container that was used is of the kind %d, not %d", c.Kind(), i+1)
			}
		}
	}
}

func TestWhatIsToldHasMemoryOfItsOwn(t *testing.T) {
	for _, l := range many() {
		s := setOf(l)
		for _, c := range each(t, s) {
			told := []container.Container{c, c.Canonical(), c.Flip(5, 5), c.Flip(0, 65536), c.With(7), c.And(c), c.Or(c), c.AndNot(container.Container{}), c.Xor(container.Container{})}
			sets := []*set{s, s, s, s.flipped(0, 65536), s.with(7), s, s, s, s}
			for i, o := range told {
				a, w, r := o.Array(), o.Words(), o.Runs()
				spoil(a, 7)
				spoil(w, 7)
				spoil(r, api.Run{First: 7, More: 7})
				for k, also := range told {
					if also.Len() != len(sets[k].array()) || !slices.Equal(also.Array(), sets[k].array()) {
						t.Fatalf("rows that were told of the container %d, of the kind %d, were changed, and so was the container %d", i, c.Kind(), k)
					}
				}
				checkSet(t, "a container whose rows were changed", o, sets[i])
			}
		}
	}
}
