package runs_test

import (
	"math"
	"slices"
	"testing"

	"isinglass/api"
	"isinglass/runs"
)

// pair is a call of two sets, its name, and by the chapter's words whether it takes a number.
type pair struct {
	name  string
	call  func(a, b []api.Run) []api.Run
	takes func(inA, inB bool) bool
}

// pairs are the calls of two sets.
func pairs() []pair {
	return []pair{
		{"And", runs.And, func(inA, inB bool) bool { return inA && inB }},
		{"Or", runs.Or, func(inA, inB bool) bool { return inA || inB }},
		{"AndNot", runs.AndNot, func(inA, inB bool) bool { return inA && !inB }},
		{"Xor", runs.Xor, func(inA, inB bool) bool { return inA != inB }},
	}
}

// row is runs, written down: of each the first number, and how many more there are.
type row [][2]uint16

// runs is what r writes down.
func (r row) runs() []api.Run {
	var l []api.Run
	for _, run := range r {
		l = append(l, api.Run{First: run[0], More: run[1]})
	}
	return l
}

// laid is what rows write down.
func laid(rows []row) [][]api.Run {
	var l [][]api.Run
	for _, r := range rows {
		l = append(l, r.runs())
	}
	return l
}

// set is a set told number by number: an account that needs no runs.
type set [api.Container]bool

// setOf is the set of some numbers.
func setOf(l []uint16) *set {
	var s set
	for _, x := range l {
		s[x] = true
	}
	return &s
}

// runs is the right runs of s, laid number by number: each begins where the number ahead is not there.
func (s *set) runs() []api.Run {
	var r []api.Run
	ahead := false
	for x, there := range s {
		switch {
		case there && ahead:
			r[len(r)-1].More++
		case there:
			r = append(r, api.Run{First: uint16(x)})
		}
		ahead = there
	}
	return r
}

// list is the numbers that s has, rising.
func (s *set) list() []uint16 {
	var l []uint16
	for x, there := range s {
		if there {
			l = append(l, uint16(x))
		}
	}
	return l
}

// below is how many numbers below x are in s, of each x from 0 to 65536.
func (s *set) below() []int {
	l := []int{0}
	n := 0
	for _, there := range s {
		if there {
			n++
		}
		l = append(l, n)
	}
	return l
}

// flipped is s, but that the numbers from lo on, below hi, are there just if they were not.
func (s *set) flipped(lo, hi int) *set {
	f := *s
	for x := max(lo, 0); x < min(hi, len(f)); x++ {
		f[x] = !f[x]
	}
	return &f
}

// paired is what a pair's call is to tell of a and b.
func paired(a, b *set, takes func(inA, inB bool) bool) *set {
	var s set
	for x := range s {
		s[x] = takes(a[x], b[x])
	}
	return &s
}

// every is every step-th number, from the first one on, below the end.
func every(from, to, step int) []uint16 {
	var l []uint16
	for x := from; x < to; x += step {
		l = append(l, uint16(x))
	}
	return l
}

// blocks are runs of so many numbers, with so many between them, from the first one on.
func blocks(from, size, between int) []uint16 {
	var l []uint16
	for x := from; x < api.Container; x += size + between {
		l = append(l, every(x, min(x+size, api.Container), 1)...)
	}
	return l
}

// mixed is some n numbers here and there by a short rule, rising.
func mixed(n int, seed uint64) []uint16 {
	l := make([]uint16, n)
	for i := range l {
		seed = seed*6364136223846793005 + 1442695040888963407
		l[i] = uint16(seed >> 40)
	}
	slices.Sort(l)
	return slices.Compact(l)
}

// many are numbers of many sets, rising: of none, of all, of one number, of single ones, of short and long runs, and mixed ones.
func many() [][]uint16 {
	return [][]uint16{
		nil,
		{0},
		{1},
		{65535},
		{0, 65535},
		{1, 2, 3, 7, 9, 10},
		every(0, api.Container, 1),
		every(1, api.Container, 1),
		every(0, api.Container-1, 1),
		every(1, api.Container-1, 1),
		every(0, api.Container, 2),
		every(1, api.Container, 2),
		every(100, 1000, 1),
		every(7, api.Container, 257),
		blocks(0, 10, 1),
		blocks(5, 10, 1),
		blocks(1, 1, 10),
		blocks(0, 1000, 3000),
		blocks(500, 3000, 1000),
		slices.Concat(every(10, 20, 1), every(21, 64, 1), every(65, 128, 1), every(255, 257, 1), every(65500, api.Container, 1)),
		mixed(100, 1),
		mixed(4000, 2),
		mixed(40000, 3),
		mixed(200000, 4),
	}
}

// near are all the sets' numbers of some six numbers in a row, from the first one on: by a set's place in the row, bit by bit, stands which of them it has.
func near(first int) [][]uint16 {
	l := make([][]uint16, 1<<6)
	for i := range l {
		for k := range 6 {
			if i>>k&1 == 1 {
				l[i] = append(l[i], uint16(first+k))
			}
		}
	}
	return l
}

// nears are where six numbers in a row are tried: at both edges, and within.
func nears() []int { return []int{0, 253, 32765, api.Container - 6} }

// all is many sets' numbers, and those of six numbers in a row.
func all() [][]uint16 {
	l := many()
	for _, first := range nears() {
		l = append(l, near(first)...)
	}
	return l
}

// places are those that are asked for: the edges, and such as no number has.
func places() []int {
	return []int{math.MinInt, math.MinInt + 1, math.MinInt32, -65536, -1, 0, 1, 2, 3, 5, 9, 10, 11, 255, 256, 257, 999, 1000, 4096, 32768, 65499, 65500, 65533, 65534, 65535, 65536, 65537, 131071, 131072, math.MaxInt32, math.MaxInt - 1, math.MaxInt}
}

// some are so many of a row of runs as are shown.
func some(r []api.Run) []api.Run { return r[:min(len(r), 6)] }

// notRight are rows that are not right: that end above 65535, touch, overlap, lie within one another, are one, fall.
func notRight() [][]api.Run {
	rows := []row{
		{{1, 65535}},
		{{2, 65534}},
		{{65534, 2}},
		{{65535, 1}},
		{{65535, 65535}},
		{{32768, 32768}},
		{{0, 5}, {65535, 1}},
		{{0, 65535}, {65535, 0}},
		{{0, 65535}, {0, 0}},
		{{0, 0}, {1, 0}},
		{{0, 5}, {6, 0}},
		{{0, 65534}, {65535, 0}},
		{{65534, 0}, {65535, 0}},
		{{0, 5}, {5, 5}},
		{{0, 5}, {3, 7}},
		{{0, 5}, {2, 1}},
		{{0, 5}, {0, 5}},
		{{0, 5}, {0, 9}},
		{{7, 0}, {7, 0}},
		{{7, 0}, {6, 0}},
		{{7, 0}, {0, 0}},
		{{7, 5}, {0, 2}},
		{{65535, 0}, {0, 0}},
		{{0, 0}, {65535, 0}, {0, 0}},
		{{1, 1}, {5, 1}, {7, 1}},
		{{1, 1}, {3, 1}, {7, 1}},
		{{10, 65530}, {12, 0}},
	}
	rows = append(rows, slices.Repeat(row{{3, 4}}, 70000), slices.Repeat(row{{0, 65535}}, 70000), slices.Repeat(row{{65535, 65535}, {0, 0}}, 40000))
	return laid(rows)
}

// P6.1

func TestMayTellsRightRuns(t *testing.T) {
	rows := laid([]row{
		nil,
		{},
		{{0, 0}},
		{{0, 65535}},
		{{1, 65534}},
		{{0, 65534}},
		{{65535, 0}},
		{{65534, 1}},
		{{32768, 32767}},
		{{0, 0}, {2, 0}},
		{{0, 5}, {7, 0}},
		{{0, 65533}, {65535, 0}},
		{{65533, 0}, {65535, 0}},
		{{1, 2}, {7, 0}},
		{{1, 2}, {5, 0}, {7, 3}, {12, 65523}},
	})
	for _, l := range all() {
		rows = append(rows, setOf(l).runs())
	}
	for _, r := range rows {
		if !runs.May(r) {
			t.Errorf("May is false of %d right runs, %v first", len(r), some(r))
		}
	}
}

func TestMayRefusesOtherRows(t *testing.T) {
	for _, r := range notRight() {
		if runs.May(r) {
			t.Errorf("May is true of %d runs that are not right, %v first", len(r), some(r))
		}
	}
}

func TestMaySeesOneFaultAnywhere(t *testing.T) {
	for i := range 99 {
		r := make([]api.Run, 100)
		for k := range r {
			r[k] = api.Run{First: uint16(10 * k), More: 8}
		}
		if !runs.May(r) {
			t.Fatal("May is false of right runs, with one number between them")
		}
		for _, more := range []uint16{9, 10, 11, 30, 65535} {
			r[i].More = more
			if runs.May(r) {
				t.Errorf("May is true, though the run %d of %d more touches the next one, or reaches beyond", i, more)
			}
		}
		r[i].More = 8
		r[i], r[i+1] = r[i+1], r[i]
		if runs.May(r) {
			t.Errorf("May is true, though the runs %d and %d fall", i, i+1)
		}
	}
}

// right is by the chapter's words, number by number, whether runs are right.
func right(r []api.Run) bool {
	in := make([]int, 3*api.Container) // of each number in how many it is
	for i, run := range r {
		last := int(run.First) + int(run.More)
		if last > 65535 || i > 0 && run.First <= r[i-1].First {
			return false
		}
		for x := int(run.First); x <= last; x++ {
			in[x]++
		}
	}
	for _, run := range r {
		last := int(run.First) + int(run.More)
		if in[run.First] != 1 || in[last] != 1 || in[last+1] != 0 {
			return false
		}
	}
	return true
}

func TestMayOfAllShortRows(t *testing.T) {
	for _, first := range []uint16{0, 65531} {
		var single []api.Run
		for i := range uint16(5) {
			for more := range uint16(4) {
				single = append(single, api.Run{First: first + i, More: more})
			}
		}
		for _, x := range single {
			for _, y := range single {
				r := []api.Run{x, y}
				if runs.May(r) != right(r) {
					t.Errorf("May of %v: %v", r, runs.May(r))
				}
			}
		}
	}
}

func TestOfTellsWhatItIsTold(t *testing.T) {
	cases := []struct {
		a    []uint16
		want row
	}{
		{[]uint16{1, 2, 3, 7}, row{{1, 2}, {7, 0}}},
		{nil, nil},
		{[]uint16{}, nil},
		{[]uint16{0}, row{{0, 0}}},
		{[]uint16{65535}, row{{65535, 0}}},
		{[]uint16{0, 1}, row{{0, 1}}},
		{[]uint16{0, 2}, row{{0, 0}, {2, 0}}},
		{[]uint16{65534, 65535}, row{{65534, 1}}},
		{[]uint16{65533, 65535}, row{{65533, 0}, {65535, 0}}},
		{[]uint16{0, 65535}, row{{0, 0}, {65535, 0}}},
		{[]uint16{255, 256, 257, 259}, row{{255, 2}, {259, 0}}},
		{every(0, api.Container, 1), row{{0, 65535}}},
		{every(1, api.Container, 1), row{{1, 65534}}},
		{every(0, api.Container-1, 1), row{{0, 65534}}},
	}
	for _, c := range cases {
		if r := runs.Of(c.a); !slices.Equal(r, c.want.runs()) {
			t.Errorf("Of %d numbers, %v first: %v, not %v", len(c.a), c.a[:min(len(c.a), 6)], some(r), c.want)
		}
	}
}

func TestOfIsTheRightRuns(t *testing.T) {
	for i, l := range all() {
		r := runs.Of(l)
		if !slices.Equal(r, setOf(l).runs()) || !right(r) {
			t.Errorf("Of the numbers %d: %d runs that are not theirs, %v first", i, len(r), some(r))
		}
	}
}

func TestListTellsWhatItIsTold(t *testing.T) {
	cases := []struct {
		r    row
		want []uint16
	}{
		{row{{1, 2}, {7, 0}}, []uint16{1, 2, 3, 7}},
		{nil, nil},
		{row{}, nil},
		{row{{0, 0}}, []uint16{0}},
		{row{{65535, 0}}, []uint16{65535}},
		{row{{65534, 1}}, []uint16{65534, 65535}},
		{row{{0, 0}, {65535, 0}}, []uint16{0, 65535}},
		{row{{0, 65535}}, every(0, api.Container, 1)},
		{row{{0, 65533}, {65535, 0}}, slices.Concat(every(0, 65534, 1), []uint16{65535})},
	}
	for _, c := range cases {
		if l := runs.List(c.r.runs()); !slices.Equal(l, c.want) {
			t.Errorf("List of %v: %d numbers, %v first", c.r, len(l), l[:min(len(l), 6)])
		}
	}
}

func TestListIsTheNumbers(t *testing.T) {
	for i, l := range all() {
		if got := runs.List(setOf(l).runs()); !slices.Equal(got, l) {
			t.Errorf("List of the set %d: %d numbers, %v first", i, len(got), got[:min(len(got), 6)])
		}
	}
}

func TestASetHasOneRowOfRuns(t *testing.T) {
	for i, l := range all() {
		r := setOf(l).runs()
		if !slices.Equal(runs.Of(runs.List(r)), r) {
			t.Errorf("Of the list of the set %d is not its runs", i)
		}
	}
}

func TestLenIsHowMany(t *testing.T) {
	cases := []struct {
		r row
		n int
	}{
		{nil, 0},
		{row{}, 0},
		{row{{0, 0}}, 1},
		{row{{65535, 0}}, 1},
		{row{{65534, 1}}, 2},
		{row{{1, 2}, {7, 0}}, 4},
		{row{{0, 65535}}, 65536},
		{row{{1, 65534}}, 65535},
		{row{{0, 65534}}, 65535},
		{row{{0, 0}, {2, 65533}}, 65535},
	}
	for _, c := range cases {
		if n := runs.Len(c.r.runs()); n != c.n {
			t.Errorf("Len of %v: %d, not %d", c.r, n, c.n)
		}
	}
	for i, l := range all() {
		if n := runs.Len(setOf(l).runs()); n != len(l) {
			t.Errorf("Len of the set %d: %d, not %d", i, n, len(l))
		}
	}
}

func TestHasIsWhetherOneIsThere(t *testing.T) {
	for i, l := range many() {
		s := setOf(l)
		r := s.runs()
		for x := range s {
			if runs.Has(r, uint16(x)) != s[x] {
				t.Errorf("Has of the set %d: %d is not told as it is", i, x)
				break
			}
		}
	}
	for _, first := range nears() {
		for _, l := range near(first) {
			s := setOf(l)
			r := s.runs()
			for _, x := range []int{0, 1, first - 1, first, first + 1, first + 2, first + 3, first + 4, first + 5, first + 6, 65534, 65535} {
				if x = min(max(x, 0), 65535); runs.Has(r, uint16(x)) != s[x] {
					t.Errorf("Has of %v: %d is not told as it is", r, x)
				}
			}
		}
	}
}

func TestRankTellsWhatItIsTold(t *testing.T) {
	whole := row{{0, 65535}}
	cases := []struct {
		r row
		x int
		n int
	}{
		{row{{1, 0}, {5, 0}, {9, 0}}, 6, 2},
		{row{{1, 2}, {7, 0}}, math.MinInt, 0},
		{row{{1, 2}, {7, 0}}, -1, 0},
		{row{{1, 2}, {7, 0}}, 0, 0},
		{row{{1, 2}, {7, 0}}, 1, 0},
		{row{{1, 2}, {7, 0}}, 2, 1},
		{row{{1, 2}, {7, 0}}, 3, 2},
		{row{{1, 2}, {7, 0}}, 4, 3},
		{row{{1, 2}, {7, 0}}, 5, 3},
		{row{{1, 2}, {7, 0}}, 7, 3},
		{row{{1, 2}, {7, 0}}, 8, 4},
		{row{{1, 2}, {7, 0}}, 65536, 4},
		{row{{1, 2}, {7, 0}}, math.MaxInt, 4},
		{nil, 0, 0},
		{nil, 65536, 0},
		{row{{0, 0}}, -1, 0},
		{row{{0, 0}}, 0, 0},
		{row{{0, 0}}, 1, 1},
		{row{{65535, 0}}, 65535, 0},
		{row{{65535, 0}}, 65536, 1},
		{row{{65535, 0}}, 65537, 1},
		{row{{65535, 0}}, math.MaxInt, 1},
		{whole, math.MinInt, 0},
		{whole, -1, 0},
		{whole, 0, 0},
		{whole, 1, 1},
		{whole, 65535, 65535},
		{whole, 65536, 65536},
		{whole, 65537, 65536},
		{whole, math.MaxInt, 65536},
	}
	for _, c := range cases {
		if n := runs.Rank(c.r.runs(), c.x); n != c.n {
			t.Errorf("Rank of %v below %d: %d, not %d", c.r, c.x, n, c.n)
		}
	}
}

func TestRankCountsWhatIsBelow(t *testing.T) {
	asked := places()
	for x := 0; x <= api.Container; x += 197 {
		asked = append(asked, x)
	}
	for _, first := range nears() {
		for x := first - 2; x < first+9; x++ {
			asked = append(asked, x)
		}
	}
	for i, l := range all() {
		s := setOf(l)
		r, below := s.runs(), s.below()
		for _, x := range asked {
			want := below[min(max(x, 0), api.Container)]
			if n := runs.Rank(r, x); n != want {
				t.Errorf("Rank of the set %d below %d: %d, not %d", i, x, n, want)
			}
		}
	}
}

func TestSelectTellsWhatItIsTold(t *testing.T) {
	whole := row{{0, 65535}}
	cases := []struct {
		r     row
		k     int
		x     uint16
		there bool
	}{
		{row{{1, 0}, {5, 0}, {9, 0}}, 2, 9, true},
		{row{{1, 2}, {7, 0}}, math.MinInt, 0, false},
		{row{{1, 2}, {7, 0}}, -1, 0, false},
		{row{{1, 2}, {7, 0}}, 0, 1, true},
		{row{{1, 2}, {7, 0}}, 1, 2, true},
		{row{{1, 2}, {7, 0}}, 2, 3, true},
		{row{{1, 2}, {7, 0}}, 3, 7, true},
		{row{{1, 2}, {7, 0}}, 4, 0, false},
		{row{{1, 2}, {7, 0}}, 5, 0, false},
		{row{{1, 2}, {7, 0}}, math.MaxInt, 0, false},
		{nil, -1, 0, false},
		{nil, 0, 0, false},
		{row{{0, 0}}, 0, 0, true},
		{row{{0, 0}}, 1, 0, false},
		{row{{65535, 0}}, 0, 65535, true},
		{row{{65535, 0}}, 1, 0, false},
		{row{{65534, 1}}, 1, 65535, true},
		{row{{65534, 1}}, 2, 0, false},
		{whole, -1, 0, false},
		{whole, 0, 0, true},
		{whole, 65535, 65535, true},
		{whole, 65536, 0, false},
		{whole, 65537, 0, false},
	}
	for _, c := range cases {
		if x, there := runs.Select(c.r.runs(), c.k); x != c.x || there != c.there {
			t.Errorf("Select %d of %v: %d, %v, not %d, %v", c.k, c.r, x, there, c.x, c.there)
		}
	}
}

func TestSelectTellsEachNumber(t *testing.T) {
	for i, l := range all() {
		r := setOf(l).runs()
		for k := 0; k < len(l); k += 1 + len(l)/1500 {
			if x, there := runs.Select(r, k); x != l[k] || !there {
				t.Errorf("Select %d of the set %d: %d, %v, not %d", k, i, x, there, l[k])
			}
		}
		if n := len(l); n > 0 {
			if x, there := runs.Select(r, n-1); x != l[n-1] || !there {
				t.Errorf("Select of the last one of the set %d: %d, %v, not %d", i, x, there, l[n-1])
			}
		}
		for _, k := range []int{math.MinInt, -65536, -1, len(l), len(l) + 1, 65536, 65537, math.MaxInt} {
			if x, there := runs.Select(r, k); x != 0 || there {
				t.Errorf("Select %d of the set %d of %d numbers: %d, %v", k, i, len(l), x, there)
			}
		}
	}
}

// P6.2

func TestPairsTellWhatTheyAreTold(t *testing.T) {
	whole := row{{0, 65535}}
	cases := []struct {
		name string
		a, b row
		want [4]row // of And, Or, AndNot, Xor
	}{
		{"none", nil, nil, [4]row{}},
		{"none and some", nil, row{{0, 2}, {9, 0}}, [4]row{nil, {{0, 2}, {9, 0}}, nil, {{0, 2}, {9, 0}}}},
		{"some and none", row{{0, 2}, {9, 0}}, row{}, [4]row{nil, {{0, 2}, {9, 0}}, {{0, 2}, {9, 0}}, {{0, 2}, {9, 0}}}},
		{"those of layer 4", row{{1, 1}}, row{{2, 1}}, [4]row{{{2, 0}}, {{1, 2}}, {{1, 0}}, {{1, 0}, {3, 0}}}},
		{"one row twice", row{{1, 2}, {7, 0}}, row{{1, 2}, {7, 0}}, [4]row{{{1, 2}, {7, 0}}, {{1, 2}, {7, 0}}, nil, nil}},
		{"apart", row{{1, 2}}, row{{7, 1}}, [4]row{nil, {{1, 2}, {7, 1}}, {{1, 2}}, {{1, 2}, {7, 1}}}},
		{"one number between", row{{1, 2}}, row{{5, 1}}, [4]row{nil, {{1, 2}, {5, 1}}, {{1, 2}}, {{1, 2}, {5, 1}}}},
		{"they touch", row{{1, 2}}, row{{4, 1}}, [4]row{nil, {{1, 4}}, {{1, 2}}, {{1, 4}}}},
		{"they touch, the other way", row{{4, 1}}, row{{1, 2}}, [4]row{nil, {{1, 4}}, {{4, 1}}, {{1, 4}}}},
		{"one fills a gap", row{{0, 4}, {6, 3}}, row{{5, 0}}, [4]row{nil, {{0, 9}}, {{0, 4}, {6, 3}}, {{0, 9}}}},
		{"gaps are filled in turn", row{{0, 0}, {2, 0}, {4, 0}}, row{{1, 0}, {3, 0}, {5, 0}}, [4]row{nil, {{0, 5}}, {{0, 0}, {2, 0}, {4, 0}}, {{0, 5}}}},
		{"they meet", row{{1, 5}}, row{{4, 5}}, [4]row{{{4, 2}}, {{1, 8}}, {{1, 2}}, {{1, 2}, {7, 2}}}},
		{"they meet in one number", row{{1, 3}}, row{{4, 3}}, [4]row{{{4, 0}}, {{1, 6}}, {{1, 2}}, {{1, 2}, {5, 2}}}},
		{"one lies within", row{{1, 9}}, row{{4, 2}}, [4]row{{{4, 2}}, {{1, 9}}, {{1, 2}, {7, 3}}, {{1, 2}, {7, 3}}}},
		{"one lies within, the other way", row{{4, 2}}, row{{1, 9}}, [4]row{{{4, 2}}, {{1, 9}}, nil, {{1, 2}, {7, 3}}}},
		{"within, from the beginning", row{{1, 9}}, row{{1, 2}}, [4]row{{{1, 2}}, {{1, 9}}, {{4, 6}}, {{4, 6}}}},
		{"within, to the end", row{{1, 9}}, row{{8, 2}}, [4]row{{{8, 2}}, {{1, 9}}, {{1, 6}}, {{1, 6}}}},
		{"one reaches over several", row{{0, 1}, {3, 1}, {6, 1}, {9, 1}}, row{{1, 8}}, [4]row{{{1, 0}, {3, 1}, {6, 1}, {9, 0}}, {{0, 10}}, {{0, 0}, {10, 0}}, {{0, 0}, {2, 0}, {5, 0}, {8, 0}, {10, 0}}}},
		{"one reaches over several, the other way", row{{1, 8}}, row{{0, 1}, {3, 1}, {6, 1}, {9, 1}}, [4]row{{{1, 0}, {3, 1}, {6, 1}, {9, 0}}, {{0, 10}}, {{2, 0}, {5, 0}, {8, 0}}, {{0, 0}, {2, 0}, {5, 0}, {8, 0}, {10, 0}}}},
		{"they end at 65535", row{{65530, 5}}, row{{65533, 2}}, [4]row{{{65533, 2}}, {{65530, 5}}, {{65530, 2}}, {{65530, 2}}}},
		{"they touch at 65535", row{{65530, 4}}, row{{65535, 0}}, [4]row{nil, {{65530, 5}}, {{65530, 4}}, {{65530, 5}}}},
		{"the first and the last one", row{{0, 0}}, row{{65535, 0}}, [4]row{nil, {{0, 0}, {65535, 0}}, {{0, 0}}, {{0, 0}, {65535, 0}}}},
		{"all and none", whole, nil, [4]row{nil, whole, whole, whole}},
		{"none and all", nil, whole, [4]row{nil, whole, nil, whole}},
		{"all and all", whole, whole, [4]row{whole, whole, nil, nil}},
		{"all and some", whole, row{{0, 0}, {65535, 0}}, [4]row{{{0, 0}, {65535, 0}}, whole, {{1, 65533}}, {{1, 65533}}}},
		{"some and all", row{{0, 0}, {65535, 0}}, whole, [4]row{{{0, 0}, {65535, 0}}, whole, nil, {{1, 65533}}}},
		{"two halves", row{{0, 32767}}, row{{32768, 32767}}, [4]row{nil, whole, {{0, 32767}}, whole}},
	}
	for _, c := range cases {
		for i, p := range pairs() {
			if r := p.call(c.a.runs(), c.b.runs()); !slices.Equal(r, c.want[i].runs()) {
				t.Errorf("%s, %s of %v and %v: %v, not %v", c.name, p.name, c.a, c.b, r, c.want[i])
			}
		}
	}
}

func TestPairsOfNearNumbers(t *testing.T) {
	for _, first := range nears() {
		var sets [][]api.Run
		for _, l := range near(first) {
			sets = append(sets, setOf(l).runs())
		}
		for _, p := range pairs() {
			for i, a := range sets {
				for k, b := range sets {
					want := 0 // which of the sets it is to be
					for bit := range 6 {
						if p.takes(i>>bit&1 == 1, k>>bit&1 == 1) {
							want |= 1 << bit
						}
					}
					if r := p.call(a, b); !slices.Equal(r, sets[want]) {
						t.Errorf("%s of %v and %v: %v, not %v", p.name, a, b, r, sets[want])
					}
				}
			}
		}
	}
}

func TestPairsOfManyNumbers(t *testing.T) {
	var sets []*set
	var rows [][]api.Run
	for _, l := range many() {
		sets = append(sets, setOf(l))
		rows = append(rows, setOf(l).runs())
	}
	for _, p := range pairs() {
		for i, a := range sets {
			for k, b := range sets {
				r := p.call(rows[i], rows[k])
				if !slices.Equal(r, paired(a, b, p.takes).runs()) {
					t.Errorf("%s of the sets %d and %d: %d runs that are not its, %v first", p.name, i, k, len(r), some(r))
				}
				if !runs.May(r) {
					t.Errorf("%s of the sets %d and %d: runs that are not right", p.name, i, k)
				}
			}
		}
	}
}

func TestFlipTellsWhatItIsTold(t *testing.T) {
	whole := row{{0, 65535}}
	cases := []struct {
		r      row
		lo, hi int
		want   row
	}{
		{row{{1, 2}}, 0, 3, row{{0, 0}, {3, 0}}},
		{row{{1, 0}}, 0, 3, row{{0, 0}, {2, 0}}},
		// of none
		{row{{1, 2}}, 0, 0, row{{1, 2}}},
		{row{{1, 2}}, 2, 2, row{{1, 2}}},
		{row{{1, 2}}, 3, 2, row{{1, 2}}},
		{row{{1, 2}}, 65535, 0, row{{1, 2}}},
		{row{{1, 2}}, math.MaxInt, math.MinInt, row{{1, 2}}},
		{row{{1, 2}}, 65536, 65536, row{{1, 2}}},
		{nil, 7, 7, nil},
		{nil, 7, 3, nil},
		// outside
		{row{{1, 2}}, -5, 0, row{{1, 2}}},
		{row{{1, 2}}, -5, -1, row{{1, 2}}},
		{row{{1, 2}}, -5, 1, row{{0, 3}}},
		{row{{1, 2}}, math.MinInt, 2, row{{0, 0}, {2, 1}}},
		{row{{1, 2}}, 65535, 65536, row{{1, 2}, {65535, 0}}},
		{row{{1, 2}}, 65535, math.MaxInt, row{{1, 2}, {65535, 0}}},
		{row{{1, 2}}, 65536, 65537, row{{1, 2}}},
		{row{{1, 2}}, 65536, math.MaxInt, row{{1, 2}}},
		{row{{1, 2}}, 131072, 131080, row{{1, 2}}},
		{row{{65530, 5}}, 65533, 70000, row{{65530, 2}}},
		{row{{0, 5}}, -70000, 3, row{{3, 2}}},
		// of a part of a run, and of one whole
		{row{{10, 9}}, 12, 15, row{{10, 1}, {15, 4}}},
		{row{{10, 9}}, 12, 13, row{{10, 1}, {13, 6}}},
		{row{{10, 9}}, 10, 15, row{{15, 4}}},
		{row{{10, 9}}, 15, 20, row{{10, 4}}},
		{row{{10, 9}}, 10, 20, nil},
		{row{{10, 9}}, 5, 15, row{{5, 4}, {15, 4}}},
		{row{{10, 9}}, 15, 25, row{{10, 4}, {20, 4}}},
		{row{{10, 9}}, 5, 25, row{{5, 4}, {20, 4}}},
		// beside a run
		{row{{10, 9}}, 5, 10, row{{5, 14}}},
		{row{{10, 9}}, 20, 25, row{{10, 14}}},
		{row{{10, 9}}, 5, 9, row{{5, 3}, {10, 9}}},
		{row{{10, 9}}, 21, 25, row{{10, 9}, {21, 3}}},
		// over several
		{row{{0, 0}, {2, 0}, {4, 0}, {6, 0}}, 1, 6, row{{0, 1}, {3, 0}, {5, 1}}},
		{row{{0, 0}, {2, 0}, {4, 0}, {6, 0}}, 0, 7, row{{1, 0}, {3, 0}, {5, 0}}},
		{row{{1, 2}, {7, 0}, {9, 1}}, 2, 10, row{{1, 0}, {4, 2}, {8, 0}, {10, 0}}},
		{row{{5, 4}, {20, 9}, {65530, 5}}, 0, 65536, row{{0, 4}, {10, 9}, {30, 65499}}},
		// none and all
		{nil, 10, 13, row{{10, 2}}},
		{nil, 0, 1, row{{0, 0}}},
		{nil, 65535, 65536, row{{65535, 0}}},
		{nil, 0, 65536, whole},
		{whole, 0, 65536, nil},
		{nil, math.MinInt, math.MaxInt, whole},
		{whole, math.MinInt, math.MaxInt, nil},
		{whole, 1, 65535, row{{0, 0}, {65535, 0}}},
		{whole, 0, 65535, row{{65535, 0}}},
		{whole, 1, 65536, row{{0, 0}}},
	}
	for _, c := range cases {
		if r := runs.Flip(c.r.runs(), c.lo, c.hi); !slices.Equal(r, c.want.runs()) {
			t.Errorf("Flip of %v from %d to %d: %v, not %v", c.r, c.lo, c.hi, r, c.want)
		}
	}
}

func TestFlipOfNearNumbers(t *testing.T) {
	for _, first := range nears() {
		for _, l := range near(first) {
			s := setOf(l)
			r := s.runs()
			for lo := -1; lo < 8; lo++ {
				hi := (lo*5+len(l)*3+11)%9 - 1
				f := runs.Flip(r, first+lo, first+hi)
				if !slices.Equal(f, s.flipped(first+lo, first+hi).runs()) {
					t.Errorf("Flip of %v from %d to %d: %v", r, first+lo, first+hi, f)
				}
			}
		}
	}
}

func TestFlipOfManyNumbers(t *testing.T) {
	ends := []int{math.MinInt, -1, 0, 1, 10, 11, 257, 1000, 4096, 65500, 65535, 65536, 65537, math.MaxInt}
	for i, l := range many() {
		s := setOf(l)
		r := s.runs()
		for _, lo := range ends {
			for _, hi := range ends {
				f := runs.Flip(r, lo, hi)
				if !slices.Equal(f, s.flipped(lo, hi).runs()) || !runs.May(f) {
					t.Fatalf("Flip of the set %d from %d to %d: %d runs that are not its, %v first", i, lo, hi, len(f), some(f))
				}
				if !slices.Equal(runs.Flip(f, lo, hi), r) {
					t.Fatalf("the set %d, flipped twice from %d to %d, is not what it was", i, lo, hi)
				}
			}
		}
	}
}

// P6.1, P6.2: all calls end, what is handed in stays, what is told has memory of its own.

func TestCallsEndAtOtherRows(t *testing.T) {
	rows := append(notRight(), nil, row{{0, 65535}}.runs(), row{{65535, 0}}.runs(), setOf(mixed(4000, 5)).runs())
	for _, r := range rows {
		runs.Len(r)
		runs.List(r)
		for _, x := range []uint16{0, 1, 2, 6, 7, 65534, 65535} {
			runs.Has(r, x)
		}
		for _, x := range places() {
			runs.Rank(r, x)
			runs.Select(r, x)
		}
		for _, lo := range []int{math.MinInt, -1, 0, 3, 65535, 65536, math.MaxInt} {
			for _, hi := range []int{math.MinInt, 0, 1, 7, 65535, 65536, math.MaxInt} {
				runs.Flip(r, lo, hi)
			}
		}
		for _, o := range rows {
			for _, p := range pairs() {
				p.call(r, o)
			}
		}
	}
}

func TestOfEndsAtRowsThatAreNoArrays(t *testing.T) {
	falling := every(0, api.Container, 1)
	slices.Reverse(falling)
	rows := [][]uint16{{0, 0}, {65535, 0}, {65535, 65535}, {1, 2, 2, 3}, {3, 1, 2}, {65534, 65535, 0, 1}, falling, make([]uint16, 70000), slices.Repeat(every(0, api.Container, 1), 3)}
	for _, a := range rows {
		runs.Of(a)
	}
}

// roomy is a row with room behind it, in which there stands what is not its.
func roomy[T any](a []T, behind T) (l, whole []T) {
	whole = append(slices.Clone(a), behind, behind, behind)
	return whole[:len(a)], whole
}

func TestWhatIsHandedInStays(t *testing.T) {
	a, wholeA := roomy([]uint16{1, 2, 5, 9}, 11111)
	runs.Of(a)
	if !slices.Equal(wholeA, []uint16{1, 2, 5, 9, 11111, 11111, 11111}) {
		t.Errorf("Of changed what it was handed: %v", wholeA)
	}
	for i, l := range many() {
		r, wholeR := roomy(setOf(l).runs(), api.Run{First: 22222, More: 2})
		o, wholeO := roomy(setOf(mixed(3000, 6)).runs(), api.Run{First: 33333, More: 3})
		wasR, wasO := slices.Clone(wholeR), slices.Clone(wholeO)
		runs.May(r)
		runs.List(r)
		runs.Len(r)
		runs.Has(r, 63)
		runs.Rank(r, 65536)
		runs.Select(r, len(l)-1)
		runs.Flip(r, -1, 65537)
		runs.Flip(r, 10, 20)
		runs.Flip(r, 5, 5)
		for _, p := range pairs() {
			p.call(r, o)
			p.call(o, r)
			p.call(r, r)
			p.call(r, nil)
			p.call(nil, r)
		}
		if !slices.Equal(wholeR, wasR) || !slices.Equal(wholeO, wasO) {
			t.Errorf("calls changed the set %d or the one that it was paired with", i)
		}
	}
}

// spoil changes all the runs of a row, and those in the room behind it.
func spoil(r []api.Run) {
	r = r[:cap(r)]
	for i := range r {
		r[i] = api.Run{First: ^r[i].First, More: ^r[i].More}
	}
}

func TestWhatIsToldHasMemoryOfItsOwn(t *testing.T) {
	calls := map[string]func(a, b []api.Run) []api.Run{
		"Flip":         func(a, _ []api.Run) []api.Run { return runs.Flip(a, 10, 1000) },
		"Flip of all":  func(a, _ []api.Run) []api.Run { return runs.Flip(a, 0, 65536) },
		"Flip of none": func(a, _ []api.Run) []api.Run { return runs.Flip(a, 7, 7) },
		"Flip outside": func(a, _ []api.Run) []api.Run { return runs.Flip(a, 65536, math.MaxInt) },
	}
	for _, p := range pairs() {
		calls[p.name] = p.call
		calls[p.name+" of one set twice"] = func(a, _ []api.Run) []api.Run { return p.call(a, a) }
	}
	cases := [][2][]uint16{{mixed(500, 7), mixed(500, 8)}, {nil, mixed(500, 7)}, {mixed(500, 7), nil}, {every(0, api.Container, 1), {63, 64}}, {{63, 64}, every(0, api.Container, 1)}, {{1, 2, 3}, {7, 8}}, {{7, 8}, {1, 2, 3}}, {nil, nil}}
	for name, call := range calls {
		for i, c := range cases {
			a, wholeA := roomy(setOf(c[0]).runs(), api.Run{First: 22222, More: 2})
			b, wholeB := roomy(setOf(c[1]).runs(), api.Run{First: 33333, More: 3})
			wasA, wasB := slices.Clone(wholeA), slices.Clone(wholeB)
			r, again := call(a, b), call(a, b)
			want := slices.Clone(r)
			spoil(r)
			if !slices.Equal(wholeA, wasA) || !slices.Equal(wholeB, wasB) {
				t.Errorf("what %s told of the sets %d was changed, and so was what it was handed", name, i)
			}
			if !slices.Equal(again, want) {
				t.Errorf("what %s told of the sets %d was changed, and so was what it told again", name, i)
			}
			spoil(wholeA)
			spoil(wholeB)
			if !slices.Equal(again, want) {
				t.Errorf("what %s was handed, the sets %d, was changed, and so was what it told", name, i)
			}
		}
	}
}

func TestOfHasMemoryOfItsOwn(t *testing.T) {
	a := []uint16{1, 2, 3, 7}
	r, again := runs.Of(a), runs.Of(a)
	spoil(r)
	a[0], a[1], a[2], a[3] = 100, 200, 300, 400
	if !slices.Equal(again, row{{1, 2}, {7, 0}}.runs()) {
		t.Errorf("what Of was handed, or told, was changed, and so was what it told again: %v", again)
	}
}

func TestListHasMemoryOfItsOwn(t *testing.T) {
	r, whole := roomy(row{{1, 2}, {7, 0}}.runs(), api.Run{First: 22222, More: 2})
	was := slices.Clone(whole)
	l, again := runs.List(r), runs.List(r)
	l = l[:cap(l)]
	for i := range l {
		l[i] = 7777
	}
	if !slices.Equal(whole, was) || !slices.Equal(again, []uint16{1, 2, 3, 7}) {
		t.Error("what List told was changed, and so was what it was handed, or told again")
	}
	spoil(whole)
	if !slices.Equal(again, []uint16{1, 2, 3, 7}) {
		t.Error("what List was handed was changed, and so was what it told")
	}
}
