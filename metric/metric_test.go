package metric_test

import (
	"bytes"
	"math"
	"slices"
	"testing"

	"isinglass/api"
	"isinglass/metric"
)

// P13.1

func TestExamples(t *testing.T) {
	c := of(t, []int64{3, -1})
	if n, e := c.Get(2); c.Least() != -1 || c.Greatest() != 3 || n != 0 || e != api.ErrNone {
		t.Errorf("from %d to %d, the row 2 has %d, the error %d", c.Least(), c.Greatest(), n, e)
	}
	check(t, "3, -1", c, []int64{3, -1})
	none := of(t, nil)
	if b := none.Bytes(); string(b) != "\x00\x00\x00\x00\xff\xff\xff\xff\xff\xff\xff\x7f\x00\x00\x00\x00\x00\x00\x00\x80" {
		t.Errorf("the bytes of no rows: % x", b)
	}
	want := "\x02\x00\x00\x00" +
		"\xff\xff\xff\xff\xff\xff\xff\xff" + "\x03\x00\x00\x00\x00\x00\x00\x00" +
		"\x03\x00\x00\x00\x00\x00\x00\x00" + "\xff\xff\xff\xff\xff\xff\xff\xff"
	if b := c.Bytes(); string(b) != want {
		t.Errorf("the bytes of 3, -1: % x", b)
	}
}

func TestOfOfNoneOneAndMany(t *testing.T) {
	all(func(l []int64) { check(t, "made", of(t, l), l) })
}

func TestOfOfAllSmallOnes(t *testing.T) {
	for n := range 5 {
		l := slices.Repeat([]int64{-2}, n)
		for next := true; next; next = rise(l) {
			check(t, "small", of(t, l), l)
		}
	}
}

// rise makes the next row of numbers from -2 to 2, and is false behind the last one.
func rise(l []int64) bool {
	for i := range l {
		l[i]++
		if l[i] <= 2 {
			return true
		}
		l[i] = -2
	}
	return false
}

// The least and the greatest number of all are ones as any other, and are also those of no rows, each in the other's place.
func TestLeastAndGreatestOfAll(t *testing.T) {
	const lowest, highest = math.MinInt64, math.MaxInt64
	for _, c := range []struct {
		l               []int64
		least, greatest int64
	}{
		{nil, highest, lowest},
		{[]int64{}, highest, lowest},
		{[]int64{lowest}, lowest, lowest},
		{[]int64{highest}, highest, highest},
		{[]int64{lowest, highest}, lowest, highest},
		{[]int64{highest, lowest}, lowest, highest},
		{[]int64{highest, highest}, highest, highest},
		{[]int64{lowest, lowest, lowest}, lowest, lowest},
		{[]int64{0, highest, 1}, 0, highest},
		{[]int64{0, lowest, 1}, lowest, 1},
		{[]int64{0}, 0, 0},
		{[]int64{7, 7, 7}, 7, 7},
		{[]int64{-7, -7}, -7, -7},
		{[]int64{5, 9, 6}, 5, 9},
		{[]int64{-5, -9, -6}, -9, -5},
	} {
		x := of(t, c.l)
		if x.Least() != c.least || x.Greatest() != c.greatest {
			t.Errorf("%d: from %d to %d, not from %d to %d", c.l, x.Least(), x.Greatest(), c.least, c.greatest)
		}
		check(t, "with the least and the greatest", x, c.l)
	}
}

// A column of no rows is made: it is no zero one.
func TestOfOfNoRows(t *testing.T) {
	for _, l := range [][]int64{nil, {}} {
		c := of(t, l)
		for _, i := range []int{0, 1, -1} {
			if n, e := c.Get(i); n != 0 || e != api.ErrNone {
				t.Errorf("the row %d of none has %d, the error %d", i, n, e)
			}
			got, e := c.Some(i, i)
			if want := []api.Errno{api.OK, api.ErrArg}[min(i*i, 1)]; len(got) != 0 || e != want {
				t.Errorf("from %d, below %d, of none: %d, the error %d, not %d", i, i, got, e, want)
			}
		}
		check(t, "no rows", c, nil)
	}
}

func TestSomeAtTheEdges(t *testing.T) {
	c := of(t, []int64{4, 0, -3, 3})
	for _, x := range []struct {
		from, to int
		want     []int64
		e        api.Errno
	}{
		{0, 4, []int64{4, 0, -3, 3}, api.OK},
		{1, 3, []int64{0, -3}, api.OK},
		{3, 4, []int64{3}, api.OK},
		{0, 0, nil, api.OK},
		{2, 2, nil, api.OK},
		{4, 4, nil, api.OK},
		{1, 0, nil, api.ErrArg},
		{4, 0, nil, api.ErrArg},
		{4, 3, nil, api.ErrArg},
		{0, 5, nil, api.ErrArg},
		{4, 5, nil, api.ErrArg},
		{5, 5, nil, api.ErrArg},
		{5, 4, nil, api.ErrArg},
		{-1, 0, nil, api.ErrArg},
		{-1, -1, nil, api.ErrArg},
		{-1, 4, nil, api.ErrArg},
		{0, -1, nil, api.ErrArg},
		{-1, 5, nil, api.ErrArg},
		{math.MinInt, math.MaxInt, nil, api.ErrArg},
		{math.MaxInt, math.MinInt, nil, api.ErrArg},
		{math.MaxInt, math.MaxInt, nil, api.ErrArg},
		{math.MinInt, math.MinInt, nil, api.ErrArg},
	} {
		if l, e := c.Some(x.from, x.to); !slices.Equal(l, x.want) || e != x.e {
			t.Errorf("from %d, below %d: %d, the error %d, not %d, %d", x.from, x.to, l, e, x.want, x.e)
		}
	}
}

func TestOfOfAsManyAsMayBe(t *testing.T) {
	l := some(api.MaxRows + 1)
	l[api.MaxRows/2], l[1000] = math.MaxInt64, math.MinInt64
	if c, e := metric.Of(l); c != nil || e != api.ErrLong {
		t.Errorf("one number too many: %t, the error %d", c != nil, e)
	}
	l = l[:api.MaxRows]
	c := of(t, l)
	checkAsMany(t, "as many as may be", c, l)
	b := c.Bytes()
	if len(b) != 20+8*len(l) || !bytes.Equal(b[:20], head(api.MaxRows, math.MinInt64, math.MaxInt64)) {
		t.Fatalf("%d bytes, % x first", len(b), b[:20])
	}
	again := read(t, b, len(l))
	checkAsMany(t, "as many as may be, read again", again, l)
	if !bytes.Equal(again.Bytes(), b) {
		t.Errorf("its bytes are other ones")
	}
	checkNotRead(t, "as many as may be, cut", b[:len(b)-1], len(l), api.ErrShort)
	checkNotRead(t, "as many as may be, and others are handed in", b, len(l)+1, api.ErrForm)
	checkNotRead(t, "as many as may be, and a byte behind", append(b, 0), len(l), api.ErrForm)
}

// checkAsMany tells whether a long column has just those numbers.
func checkAsMany(t *testing.T, name string, c *metric.Column, l []int64) {
	t.Helper()
	last := len(l) - 1
	if n, e := c.Get(last); c.Len() != len(l) || n != l[last] || e != api.OK {
		t.Errorf("%s: %d rows, the last one has %d, the error %d", name, c.Len(), n, e)
	}
	if c.Least() != math.MinInt64 || c.Greatest() != math.MaxInt64 {
		t.Errorf("%s: from %d to %d", name, c.Least(), c.Greatest())
	}
	if got, e := c.Some(0, len(l)); !slices.Equal(got, l) || e != api.OK {
		t.Errorf("%s: %d numbers, the error %d", name, len(got), e)
	}
	checkNoRows(t, name, c, len(l))
	checkSome(t, name, c, l[:0])
	checkNoneOf(t, name, c, len(l))
}

func TestOneThatIsNotThere(t *testing.T) {
	for name, c := range map[string]*metric.Column{"one that is not there": nil, "a zero one": {}} {
		for _, n := range []int{0, 1, -1, api.MaxRows, math.MaxInt, math.MinInt} {
			if got, e := c.Get(n); got != 0 || e != api.ErrNil {
				t.Errorf("%s: the row %d has %d, the error %d", name, n, got, e)
			}
			for _, to := range []int{0, 1, n, math.MaxInt, math.MinInt} {
				if l, e := c.Some(n, to); len(l) != 0 || e != api.ErrNil {
					t.Errorf("%s: from %d, below %d: %d, the error %d", name, n, to, l, e)
				}
			}
		}
		if c.Len() != 0 || c.Least() != 0 || c.Greatest() != 0 || len(c.Bytes()) != 0 {
			t.Errorf("%s: %d rows, from %d to %d, bytes % x", name, c.Len(), c.Least(), c.Greatest(), c.Bytes())
		}
	}
}

// Memory.

func TestOfKeepsNoneOfTheNumbers(t *testing.T) {
	all(func(l []int64) {
		room := append(slices.Clone(l), -5, -6)
		was := slices.Clone(room)
		c := of(t, room[:len(l)])
		if !slices.Equal(room, was) {
			t.Fatalf("the numbers have changed: %d, not %d", room, was)
		}
		spoil(room, -7)
		check(t, "of numbers that are changed behind it", c, l)
	})
}

func TestSomeAreTheCallersOwn(t *testing.T) {
	all(func(l []int64) {
		c := of(t, l)
		for _, from := range places(len(l)) {
			to := max(from, len(l)-from)
			one, _ := c.Some(from, to)
			two, _ := c.Some(from, to)
			spoil(one, -7)
			if !slices.Equal(two, l[from:to]) {
				t.Errorf("numbers told twice share memory: %d, not %d", two, l[from:to])
			}
		}
		check(t, "whose numbers were told, and changed", c, l)
	})
}

func TestBytesAreTheCallersOwn(t *testing.T) {
	all(func(l []int64) {
		c := of(t, l)
		one, two := c.Bytes(), c.Bytes()
		spoil(one, 'x')
		if !bytes.Equal(two, bytesOf(l)) {
			t.Errorf("bytes told twice share memory: % x", two)
		}
		check(t, "whose bytes are changed", c, l)
	})
}
