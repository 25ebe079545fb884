package forward_test

import (
	"bytes"
	"math"
	"slices"
	"testing"

	"isinglass/api"
	"isinglass/forward"
)

// P12.1

func TestExamples(t *testing.T) {
	x := of(t, []int{1, 0, 2}, 3)
	if id, e := x.Get(2); x.Width() != 2 || id != 2 || e != api.OK || x.Count(0) != 1 {
		t.Errorf("width %d, the row 2 has %d, the error %d, 0 is there %d times", x.Width(), id, e, x.Count(0))
	}
	if b := x.Bytes(); string(b) != "\x03\x00\x00\x00\x03\x00\x00\x00\x02\x21" {
		t.Errorf("its bytes: % x", b)
	}
	check(t, "1, 0, 2", x, []int{1, 0, 2}, 3)
}

func TestOfOfNoneOneAndMany(t *testing.T) {
	all(func(ids []int, many int) { check(t, "made", of(t, ids, many), ids, many) })
}

func TestOfOfAllSmallOnes(t *testing.T) {
	for many := 1; many <= 5; many++ {
		for n := range 5 {
			ids := make([]int, n)
			for next := true; next; next = rise(ids, many) {
				check(t, "small", of(t, ids, many), ids, many)
			}
		}
	}
}

// rise makes the next row of ids below many, and is false behind the last one.
func rise(ids []int, many int) bool {
	for i := range ids {
		ids[i]++
		if ids[i] < many {
			return true
		}
		ids[i] = 0
	}
	return false
}

func TestWidthIsThatOfTheGreatestIDThatMayBe(t *testing.T) {
	for _, c := range []struct{ many, width int }{
		{1, 1}, {2, 1}, {3, 2}, {4, 2}, {5, 3}, {8, 3}, {9, 4}, {255, 8}, {256, 8}, {257, 9},
		{1 << 16, 16}, {1<<16 + 1, 17}, {1 << 23, 23}, {1<<23 + 1, 24}, {api.MaxIDs - 1, 24}, {api.MaxIDs, 24},
	} {
		for _, ids := range [][]int{nil, {0}, {c.many - 1}, {0, c.many - 1, 0}} {
			if x := of(t, ids, c.many); x.Width() != c.width || x.Many() != c.many {
				t.Errorf("many %d: width %d, many %d, not %d", c.many, x.Width(), x.Many(), c.width)
			}
		}
	}
	if x := of(t, nil, 0); x.Width() != 1 || x.Many() != 0 {
		t.Errorf("many 0: width %d, many %d", x.Width(), x.Many())
	}
}

// An index of no rows is made: it is no zero one.
func TestOfOfNoRows(t *testing.T) {
	for _, ids := range [][]int{nil, {}} {
		x := of(t, ids, 0)
		if id, e := x.Get(0); id != 0 || e != api.ErrNone {
			t.Errorf("the row 0 of none has %d, the error %d", id, e)
		}
		if b := x.Bytes(); string(b) != "\x00\x00\x00\x00\x00\x00\x00\x00\x01" {
			t.Errorf("the bytes of none: % x", b)
		}
		if b := of(t, ids, 300).Bytes(); string(b) != "\x00\x00\x00\x00\x2c\x01\x00\x00\x09" {
			t.Errorf("the bytes of none below 300: % x", b)
		}
	}
}

func TestOfRefusesManyThatMayNotBe(t *testing.T) {
	for _, many := range noManies() {
		for _, ids := range [][]int{nil, {}, {0}, {1, 0, 2}, {-1}, {many}, {many - 1}, {math.MaxInt}, {math.MinInt}, make([]int, 100)} {
			checkNotMade(t, "many that may not be", ids, many, api.ErrArg)
		}
	}
	for _, ids := range [][]int{{0}, {1, 0, 2}, {-1}, {math.MaxInt}, {math.MinInt}, make([]int, 100)} {
		checkNotMade(t, "no ids may be, and there are some", ids, 0, api.ErrArg)
	}
}

func TestOfRefusesAnIDThatMayNotBe(t *testing.T) {
	for _, many := range manies() {
		right := some(5, many)
		for _, id := range noIDs(many) {
			checkNotMade(t, "alone", []int{id}, many, api.ErrArg)
			for i := range len(right) + 1 {
				checkNotMade(t, "among others", slices.Insert(slices.Clone(right), i, id), many, api.ErrArg)
			}
		}
	}
}

func TestOfOfAsManyAsMayBe(t *testing.T) {
	for _, many := range []int{1, 2, api.MaxIDs} {
		ids := make([]int, api.MaxRows+1)
		for i := range ids {
			ids[i] = i % many
		}
		checkNotMade(t, "one row too many", ids, many, api.ErrLong)
		for _, row := range []int{0, 1000, api.MaxRows - 1, api.MaxRows} {
			was := ids[row]
			for _, id := range []int{many, -1} {
				ids[row] = id
				checkNotMade(t, "one row too many, and an id that may not be", ids, many, api.ErrArg)
			}
			ids[row] = was
		}
		for _, wrong := range []int{0, -1, api.MaxIDs + 1} {
			checkNotMade(t, "one row too many, and many that may not be", ids, wrong, api.ErrArg)
		}
		checkOfAsMany(t, ids[:api.MaxRows], many)
	}
}

// checkOfAsMany tells whether as many rows as may be are made an index, and read again.
func checkOfAsMany(t *testing.T, ids []int, many int) {
	t.Helper()
	x := of(t, ids, many)
	last := ids[len(ids)-1]
	if id, e := x.Get(len(ids) - 1); x.Len() != len(ids) || id != last || e != api.OK {
		t.Errorf("%d rows, the last one has %d, the error %d", x.Len(), id, e)
	}
	if n := x.Count(last); n != len(ids)/many {
		t.Errorf("the last id is there %d times", n)
	}
	checkNoRows(t, "as many as may be", x, len(ids))
	b := x.Bytes()
	again, e := forward.Read(b, len(ids), many)
	if e != api.OK || !bytes.Equal(again.Bytes(), b) {
		t.Fatalf("read again: %d rows, the error %d", again.Len(), e)
	}
	checkAll(t, "as many as may be, read again", again, ids)
	checkNotRead(t, "as many as may be, cut", b[:len(b)-1], len(ids), many, api.ErrShort)
	checkNotRead(t, "as many as may be, and a byte behind", append(b, 0), len(ids), many, api.ErrForm)
}

func TestAllLeftEarlyAndTwice(t *testing.T) {
	all(func(ids []int, many int) {
		x := of(t, ids, many)
		rows := x.All()
		for stop := range len(ids) {
			n := 0
			for row, id := range rows {
				if row != n || id != ids[n] {
					t.Fatalf("the row %d has %d, not %d", row, id, ids[n])
				}
				if n == stop {
					break
				}
				n++
			}
			if n != stop {
				t.Errorf("left at %d, not at %d", n, stop)
			}
		}
		for range 2 {
			n := 0
			for range rows {
				n++
			}
			if n != len(ids) {
				t.Errorf("ranged over again: %d rows, not %d", n, len(ids))
			}
		}
		checkAll(t, "asked behind", x, ids)
	})
}

// What All tells goes on where it was, if another one is ranged over within.
func TestAllWithinAll(t *testing.T) {
	ids := []int{4, 0, 3, 3, 1}
	x := of(t, ids, 5)
	rows, n := x.All(), 0
	for row, id := range rows {
		for within, has := range rows {
			if has != ids[within] || row != n/len(ids) || id != ids[row] {
				t.Errorf("%d %d, within %d %d", row, id, within, has)
			}
			n++
		}
		if x.Count(id) != 1+id/3*(4-id) { // 3 is there twice
			t.Errorf("%d is there %d times", id, x.Count(id))
		}
	}
	if n != len(ids)*len(ids) {
		t.Errorf("%d rows of rows", n)
	}
}

// The counts of all ids that may be are how many rows there are.
func TestCountsTogether(t *testing.T) {
	for _, many := range []int{1, 2, 3, 4, 5, 16, 17, 100} {
		for n := range 40 {
			x, sum := of(t, some(n, many), many), 0
			for id := -3; id < many+3; id++ {
				sum += x.Count(id)
			}
			if sum != n {
				t.Errorf("%d rows below %d: the counts together are %d", n, many, sum)
			}
		}
	}
}

func TestOneThatIsNotThere(t *testing.T) {
	for name, x := range map[string]*forward.Index{"one that is not there": nil, "a zero one": {}} {
		for _, n := range []int{0, 1, -1, api.MaxRows, math.MaxInt, math.MinInt} {
			if id, e := x.Get(n); id != 0 || e != api.ErrNil {
				t.Errorf("%s: the row %d has %d, the error %d", name, n, id, e)
			}
			if x.Count(n) != 0 {
				t.Errorf("%s: Count of %d is %d", name, n, x.Count(n))
			}
		}
		if x.Len() != 0 || x.Many() != 0 || x.Width() != 0 || len(x.Bytes()) != 0 {
			t.Errorf("%s: %d rows, many %d, width %d, bytes % x", name, x.Len(), x.Many(), x.Width(), x.Bytes())
		}
		checkAll(t, name, x, nil)
	}
}

// Memory.

func TestOfKeepsNoneOfTheIDs(t *testing.T) {
	all(func(ids []int, many int) {
		room := append(slices.Clone(ids), -5, -6)
		was := slices.Clone(room)
		x := of(t, room[:len(ids)], many)
		if !slices.Equal(room, was) {
			t.Fatalf("the ids have changed: %d, not %d", room, was)
		}
		rows := x.All()
		spoil(room, -7)
		check(t, "of ids that are changed behind it", x, ids, many)
		n := 0
		for row, id := range rows {
			if row != n || id != ids[n] {
				t.Errorf("the row %d has %d, not %d", row, id, ids[n])
			}
			n++
		}
	})
}

func TestOfThatRefusesKeepsTheIDs(t *testing.T) {
	for _, c := range []struct {
		ids  []int
		many int
	}{{[]int{2, 1, 3}, 3}, {[]int{2, -1, 0}, 3}, {[]int{2, 1, 0}, 0}, {[]int{2, 1, 0}, -1}} {
		was := slices.Clone(c.ids)
		forward.Of(c.ids, c.many)
		if !slices.Equal(c.ids, was) {
			t.Errorf("the ids have changed: %d, not %d", c.ids, was)
		}
	}
}

func TestBytesAreTheCallersOwn(t *testing.T) {
	all(func(ids []int, many int) {
		x := of(t, ids, many)
		one, two := x.Bytes(), x.Bytes()
		spoil(one, 'x')
		if !bytes.Equal(two, bytesOf(ids, many)) {
			t.Errorf("bytes told twice share memory: % x", two)
		}
		check(t, "whose bytes are changed", x, ids, many)
	})
}
