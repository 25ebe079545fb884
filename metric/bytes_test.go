package metric_test

import (
	"bytes"
	"math"
	"slices"
	"testing"

	"isinglass/api"
	"isinglass/metric"
)

// P13.2

func TestReadsWhatIsWritten(t *testing.T) {
	all(func(l []int64) {
		b := of(t, l).Bytes()
		check(t, "read again", read(t, b, len(l)), l)
		checkAsMet(t, "read again", b, len(l))
	})
}

func TestReadOfBytesThatEndTooEarly(t *testing.T) {
	all(func(l []int64) {
		b := bytesOf(l)
		for end := range b {
			checkNotRead(t, "cut", b[:end], len(l), api.ErrShort)
			checkNotRead(t, "cut, and other rows", b[:end], len(l)+1, api.ErrShort)
			checkAsMet(t, "cut", b[:end], len(l))
		}
	})
	for n := range 4 { // whatever stands there, and whatever is handed in
		for _, x := range []byte{0, 1, 2, 255} {
			for _, rows := range []int{0, 1, -1, api.MaxRows, api.MaxRows + 1, math.MaxInt, math.MinInt} {
				checkNotRead(t, "fewer than four", bytes.Repeat([]byte{x}, n), rows, api.ErrShort)
			}
		}
	}
	checkNotRead(t, "none", nil, 0, api.ErrShort)
}

func TestReadOfBytesBehind(t *testing.T) {
	all(func(l []int64) {
		for _, more := range [][]byte{{0}, {1}, {255}, make([]byte, 7), make([]byte, 8), tail(l), bytesOf(l)} {
			if len(more) == 0 {
				continue
			}
			b := append(bytesOf(l), more...)
			checkNotRead(t, "with bytes behind", b, len(l), api.ErrForm)
			checkNotRead(t, "with bytes behind, and other rows", b, len(l)+1, api.ErrForm)
			checkAsMet(t, "with bytes behind", b, len(l))
		}
	})
}

func TestReadOfOtherRowsThanHandedIn(t *testing.T) {
	all(func(l []int64) {
		b, rows := bytesOf(l), len(l)
		for _, other := range []int{
			rows + 1, rows - 1, rows + 8, 2*rows + 1, -rows - 1, rows + 1<<32, rows - 1<<32, rows + 1<<40,
			api.MaxRows, api.MaxRows + 1, math.MaxInt32, math.MaxInt, math.MinInt,
		} {
			checkNotRead(t, "other rows", b, other, api.ErrForm)
			checkAsMet(t, "other rows", b, other)
		}
	})
}

func TestReadOfTooManyRows(t *testing.T) {
	for _, rows := range []int{api.MaxRows + 1, api.MaxRows + 2, 1 << 25, 1 << 29, math.MaxInt32, 1 << 31, math.MaxUint32} {
		b := append(head(uint32(rows), 0, 3), tail([]int64{0, 3})...)
		for end := range b {
			want := api.ErrLong
			if end < 4 {
				want = api.ErrShort
			}
			for _, other := range []int{rows, 0, 2, -1, rows - 1<<32, api.MaxRows, math.MaxInt, math.MinInt} {
				checkNotRead(t, "too many rows, and too few bytes", b[:end], other, want)
			}
		}
	}
	for end := range 36 {
		b := append(head(api.MaxRows, 0, 3), tail([]int64{0, 3})...)[:end]
		checkNotRead(t, "as many as may be, and too few bytes", b, api.MaxRows, api.ErrShort)
		checkNotRead(t, "as many as may be, and others are handed in", b, api.MaxRows+1, api.ErrShort)
	}
}

// As many bytes as too many rows ask for, and one more, or one less.
func TestReadOfTooManyRowsThatStandThere(t *testing.T) {
	const over = api.MaxRows + 1
	b := append(head(over, 0, 0), make([]byte, 8*over+1)...)
	for _, end := range []int{len(b), len(b) - 1, len(b) - 2} {
		for _, rows := range []int{over, api.MaxRows, 0} {
			checkNotRead(t, "too many rows", b[:end], rows, api.ErrLong)
		}
	}
}

func TestReadOfAnotherLeastOrGreatest(t *testing.T) {
	all(func(l []int64) {
		least, greatest := bounds(l)
		for _, other := range append(edges(), least-1, least+1, greatest-1, greatest+1, ^least, ^greatest) {
			checkBounds(t, "another least", l, other, greatest)
			checkBounds(t, "another greatest", l, least, other)
			checkBounds(t, "both others", l, other, other)
			checkBounds(t, "both others", l, other, other+1)
		}
		checkBounds(t, "each in the other's place", l, greatest, least)
		checkBounds(t, "those of no rows", l, math.MaxInt64, math.MinInt64)
		checkBounds(t, "those of all numbers", l, math.MinInt64, math.MaxInt64)
	})
}

// checkBounds tells whether a least and a greatest number are taken just where they are those of the numbers.
func checkBounds(t *testing.T, name string, l []int64, least, greatest int64) {
	t.Helper()
	hasLeast, hasGreatest := bounds(l)
	b := append(head(uint32(len(l)), least, greatest), tail(l)...)
	if least != hasLeast || greatest != hasGreatest {
		checkNotRead(t, name, b, len(l), api.ErrForm)
		checkNotRead(t, name+", cut", b[:len(b)-1], len(l), api.ErrShort)
		checkNotRead(t, name+", and a byte behind", append(b, 0), len(l), api.ErrForm)
		return
	}
	checkAsMet(t, name, b, len(l))
}

// A least or a greatest number that was right is wrong when the numbers are other ones.
func TestReadOfOtherNumbers(t *testing.T) {
	all(func(l []int64) {
		b := bytesOf(l)
		for i := range min(len(l), 20) {
			for _, n := range []int64{math.MinInt64, math.MaxInt64, 0, l[i] - 1, l[i] + 1, ^l[i]} {
				other := bytes.Clone(b)
				copy(other[20+8*i:], tail([]int64{n}))
				checkAsMet(t, "another number", other, len(l))
			}
		}
	})
	for _, c := range []struct {
		name            string
		least, greatest int64
		l               []int64
		want            api.Errno
	}{
		{"a least one that is not there", 4, 9, []int64{5, 9, 6}, api.ErrForm},
		{"a least one that is too great", 6, 9, []int64{5, 9, 6}, api.ErrForm},
		{"a greatest one that is not there", 5, 10, []int64{5, 9, 6}, api.ErrForm},
		{"a greatest one that is too small", 5, 6, []int64{5, 9, 6}, api.ErrForm},
		{"by their bits, not below nought", 5, -9, []int64{5, -9}, api.ErrForm},
		{"those of no rows, of one", math.MaxInt64, math.MinInt64, []int64{0}, api.ErrForm},
		{"those of no rows, of their numbers", math.MaxInt64, math.MinInt64, []int64{math.MaxInt64, math.MinInt64}, api.ErrForm},
		{"nought, of no rows", 0, 0, nil, api.ErrForm},
		{"of no rows those of all numbers", math.MinInt64, math.MaxInt64, nil, api.ErrForm},
		{"of no rows the least alone", math.MaxInt64, 0, nil, api.ErrForm},
		{"of no rows the greatest alone", 0, math.MinInt64, nil, api.ErrForm},
		{"of no rows twice the least", math.MaxInt64, math.MaxInt64, nil, api.ErrForm},
		{"of no rows", math.MaxInt64, math.MinInt64, nil, api.OK},
		{"right ones", 5, 9, []int64{5, 9, 6}, api.OK},
		{"right ones below nought", -9, 5, []int64{5, -9}, api.OK},
	} {
		b := append(head(uint32(len(c.l)), c.least, c.greatest), tail(c.l)...)
		if x, e := metric.Read(b, len(c.l)); e != c.want || (x != nil) != (c.want == api.OK) {
			t.Errorf("%s: %t, the error %d, not %d", c.name, x != nil, e, c.want)
		}
	}
}

// Of two things that are wrong the first one is told.
func TestReadTellsWhatIsFirst(t *testing.T) {
	const over = api.MaxRows + 1
	right := bytesOf([]int64{5, 9, 6})
	wrong := append(head(3, 5, 10), tail([]int64{5, 9, 6})...)
	for _, c := range []struct {
		name string
		b    []byte
		rows int
		want api.Errno
	}{
		{"too many rows, cut within", head(over, 0, 0)[:3], over, api.ErrShort},
		{"too many rows, and nothing else", head(over, 0, 0)[:4], over, api.ErrLong},
		{"too many rows, and no numbers", head(over, 0, 0), over, api.ErrLong},
		{"too many rows, and other ones handed in", head(over, 0, 0), 3, api.ErrLong},
		{"other rows, cut within", right[:3], 4, api.ErrShort},
		{"other rows, and nothing else", right[:4], 4, api.ErrShort},
		{"other rows, and one byte too few", right[:len(right)-1], 4, api.ErrShort},
		{"fewer rows, and one byte too few", right[:len(right)-1], 2, api.ErrShort},
		{"fewer rows, whose bytes these are", right[:len(right)-8], 2, api.ErrShort},
		{"other rows, more than may be, and too few bytes", right[:len(right)-1], over, api.ErrShort},
		{"other rows, more than may be", right, over, api.ErrForm},
		{"other rows, and a byte behind", append(bytes.Clone(right), 0), 4, api.ErrForm},
		{"other rows, whose bytes these are", append(bytes.Clone(right), tail([]int64{7})...), 4, api.ErrForm},
		{"another greatest, and one byte too few", wrong[:len(wrong)-1], 3, api.ErrShort},
		{"another greatest, and no numbers", wrong[:20], 3, api.ErrShort},
		{"another greatest, and a byte behind", append(bytes.Clone(wrong), 0), 3, api.ErrForm},
		{"another greatest, and other rows", wrong, 4, api.ErrForm},
		{"no rows, cut, and nought", head(0, 0, 0)[:19], 0, api.ErrShort},
		{"no rows, and other ones", head(0, math.MaxInt64, math.MinInt64), 1, api.ErrForm},
		{"no rows, and a number", append(head(0, 5, 5), tail([]int64{5})...), 0, api.ErrForm},
		{"no rows, and a number, and so they are handed in", append(head(0, 5, 5), tail([]int64{5})...), 1, api.ErrForm},
		{"a row, and no number", head(1, math.MaxInt64, math.MinInt64), 1, api.ErrShort},
		{"a row, and no number, and so they are handed in", head(1, math.MaxInt64, math.MinInt64), 0, api.ErrShort},
	} {
		checkNotRead(t, c.name, c.b, c.rows, c.want)
		checkAsMet(t, c.name, c.b, c.rows)
	}
}

// Whichever byte is changed, and wherever they end, what is told is what the chapter's words tell.
func TestReadOfChangedBytes(t *testing.T) {
	for _, l := range [][]int64{nil, {0}, {3, -1}, {math.MaxInt64, math.MinInt64}, {7, 7, 7}, some(4)} {
		b := append(bytesOf(l), 0)
		for n := range len(b) + 1 {
			for i := range n {
				for _, x := range []byte{0, 1, 2, 3, 127, 128, 255, b[i] + 1, b[i] - 1, b[i] ^ 128, b[i] ^ 16} {
					changed := bytes.Clone(b[:n])
					changed[i] = x
					checkAsMet(t, "one byte changed", changed, len(l))
				}
			}
		}
	}
}

func TestReadOfAnyBytes(t *testing.T) {
	next := numbersOf()
	met := map[api.Errno]int{}
	for range 100000 {
		l := make([]int64, next(4))
		for i := range l {
			l[i] = int64(next(3)) - 1
		}
		rows := len(l)
		b := append(head(uint32(rows), int64(next(3))-1, int64(next(3))-1), tail(l)...)
		switch next(16) {
		case 0:
			b[next(4)] = byte(next(4))
		case 1:
			b = b[:next(len(b))]
		case 2:
			b = append(b, byte(next(256)))
		case 3:
			rows = next(4)
		case 4:
			copy(b[4:], tail([]int64{math.MaxInt64, math.MinInt64}))
		}
		_, e := meets(b, rows)
		met[e]++
		checkAsMet(t, "any bytes", b, rows)
	}
	for _, e := range []api.Errno{api.OK, api.ErrLong, api.ErrShort, api.ErrForm} {
		if met[e] < 100 {
			t.Errorf("the error %d was met %d times", e, met[e])
		}
	}
}

// Memory.

func TestReadKeepsNoneOfTheBytes(t *testing.T) {
	all(func(l []int64) {
		room := append(bytesOf(l), "behind"...)
		was := bytes.Clone(room)
		c := read(t, room[:len(room)-len("behind")], len(l))
		if !bytes.Equal(room, was) {
			t.Fatalf("the bytes have changed: % x, not % x", room, was)
		}
		spoil(room, 'x')
		check(t, "of bytes that are changed behind it", c, l)
		spoil(c.Bytes(), 'y')
		numbers, _ := c.Some(0, len(l))
		spoil(numbers, -7)
		check(t, "whose bytes and numbers are changed", c, l)
	})
}

func TestReadOfWrongBytesKeepsThem(t *testing.T) {
	right := bytesOf([]int64{5, 9, 6})
	for _, b := range [][]byte{
		right[:2], right[:4], right[:len(right)-1], slices.Concat(right, []byte{0}), bytesOf([]int64{5, 9}),
		append(head(3, 5, 10), right[20:]...), append(head(3, 4, 9), right[20:]...), head(api.MaxRows+1, 0, 0),
	} {
		room := append(bytes.Clone(b), bytes.Repeat([]byte{'z'}, 40)...)
		metric.Read(room[:len(b)], 3)
		if !bytes.Equal(room[:len(b)], b) || !bytes.Equal(room[len(b):], bytes.Repeat([]byte{'z'}, 40)) {
			t.Errorf("% x: the bytes have changed", b)
		}
	}
}
