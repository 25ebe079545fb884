package metric_test

import (
	"bytes"
	"encoding/binary"
	"math"
	"slices"
	"testing"

	"isinglass/api"
	"isinglass/metric"
)

// edges are numbers at which a byte, or a half, is full, the least and the greatest of all, and neighbours.
func edges() []int64 {
	l := []int64{0, 1, -1, 2, 3, 300, -300, math.MaxInt64, math.MinInt64, math.MaxInt64 - 1, math.MinInt64 + 1}
	for k := 7; k < 63; k += 8 {
		for _, n := range []int64{1 << k, 1 << (k + 1)} {
			l = append(l, n-1, n, n+1, -n-1, -n, 1-n)
		}
	}
	return l
}

// some are n numbers of all sizes, below nought too: from a short rule that goes through all their bits.
func some(n int) []int64 {
	l := make([]int64, n)
	for i := range l {
		x := (uint64(i) + 3) * 0x9e3779b97f4a7c15
		l[i] = int64(x^x>>29) >> (i * 11 % 64)
	}
	return l
}

// all are rows of numbers of none, one and many: with the least and the greatest first, within and last, and of the same ones.
func all(call func(l []int64)) {
	call(nil)
	call([]int64{})
	for _, n := range edges() {
		call([]int64{n})
		call([]int64{n, n})
		call(slices.Repeat([]int64{n}, 11))
		call([]int64{n, 0, -n})
		call([]int64{5, n, -5})
	}
	for _, least := range []int64{math.MinInt64, -3, 0, 7} {
		for _, greatest := range []int64{math.MaxInt64, 7, 8} {
			for i := range 4 {
				for j := range 4 {
					call(slices.Insert(slices.Insert([]int64{7, 7, 7}, i, least), j, greatest))
				}
			}
		}
	}
	for n := range 20 {
		call(some(n))
	}
	call(edges())
	call(some(100))
}

// bounds are by the chapter's words the least and the greatest number.
func bounds(l []int64) (least, greatest int64) {
	if len(l) == 0 {
		return 9223372036854775807, -9223372036854775808
	}
	sorted := slices.Sorted(slices.Values(l))
	return sorted[0], sorted[len(l)-1]
}

// head is by the chapter's words what stands ahead of the numbers.
func head(rows uint32, least, greatest int64) []byte {
	return append(binary.LittleEndian.AppendUint32(nil, rows), tail([]int64{least, greatest})...)
}

// tail is by the chapter's words the numbers as bytes.
func tail(l []int64) []byte {
	var b []byte
	for _, n := range l {
		b = binary.LittleEndian.AppendUint64(b, uint64(n))
	}
	return b
}

// bytesOf is by the chapter's words the bytes of a column.
func bytesOf(l []int64) []byte {
	least, greatest := bounds(l)
	return append(head(uint32(len(l)), least, greatest), tail(l)...)
}

// meets is by the chapter's words what Read tells of b: the numbers, or what is wrong first.
func meets(b []byte, rows int) ([]int64, api.Errno) {
	if len(b) < 4 {
		return nil, api.ErrShort
	}
	has := int(binary.LittleEndian.Uint32(b))
	if has > 16777216 {
		return nil, api.ErrLong
	}
	if len(b) < 20+8*has {
		return nil, api.ErrShort
	}
	if len(b) > 20+8*has || has != rows {
		return nil, api.ErrForm
	}
	l := make([]int64, has)
	for i := range l {
		l[i] = int64(binary.LittleEndian.Uint64(b[20+8*i:]))
	}
	if !bytes.Equal(b, bytesOf(l)) {
		return nil, api.ErrForm
	}
	return l, api.OK
}

// check tells whether a column has just those numbers, by all that it is asked.
func check(t *testing.T, name string, c *metric.Column, l []int64) {
	t.Helper()
	if c == nil {
		t.Fatalf("%s: the column is not there", name)
	}
	least, greatest := bounds(l)
	if c.Len() != len(l) || c.Least() != least || c.Greatest() != greatest {
		t.Fatalf("%s: %d rows, from %d to %d, not %d, %d, %d", name, c.Len(), c.Least(), c.Greatest(), len(l), least, greatest)
	}
	for i, n := range l {
		if got, e := c.Get(i); got != n || e != api.OK {
			t.Errorf("%s: the number of %d is %d, the error %d, not %d", name, i, got, e, n)
		}
	}
	checkNoRows(t, name, c, len(l))
	checkSome(t, name, c, l)
	checkNoneOf(t, name, c, len(l))
	if b := c.Bytes(); !bytes.Equal(b, bytesOf(l)) {
		t.Errorf("%s: Bytes of %d numbers: % x, not % x", name, len(l), b, bytesOf(l))
	}
}

// checkNoRows tells whether there are no rows but the first n.
func checkNoRows(t *testing.T, name string, c *metric.Column, n int) {
	t.Helper()
	for _, i := range []int{n, n + 1, n + 8, 1<<24 + n, 1 << 32, 1 << 40, 1 << 61, math.MaxInt - 1, math.MaxInt, -1, -2, -n - 1, -1 << 32, n - 1 - 1<<32, -1 << 61, math.MinInt + 1, math.MinInt} {
		if got, e := c.Get(i); got != 0 || e != api.ErrNone {
			t.Errorf("%s: of %d rows the row %d is %d, the error %d", name, n, i, got, e)
		}
	}
}

// places are all places of a short row, and of a long one those at its ends.
func places(n int) []int {
	var l []int
	for i := range n + 1 {
		if i < 12 || i > n-4 {
			l = append(l, i)
		}
	}
	return l
}

// checkSome tells whether Some tells just the numbers that are asked for.
func checkSome(t *testing.T, name string, c *metric.Column, l []int64) {
	t.Helper()
	for _, from := range places(len(l)) {
		for _, to := range places(len(l)) {
			got, e := c.Some(from, to)
			if from > to {
				if len(got) != 0 || e != api.ErrArg {
					t.Errorf("%s: from %d, below %d: %d, the error %d", name, from, to, got, e)
				}
				continue
			}
			if !slices.Equal(got, l[from:to]) || e != api.OK {
				t.Errorf("%s: from %d, below %d: %d, the error %d, not %d", name, from, to, got, e, l[from:to])
			}
		}
	}
}

// checkNoneOf tells whether of n rows there are none from or below places that are none.
func checkNoneOf(t *testing.T, name string, c *metric.Column, n int) {
	t.Helper()
	under := []int{-1, -2, -n - 1, -1 << 32, -1 << 61, math.MinInt + 1, math.MinInt}
	over := []int{n + 1, n + 2, 2*n + 1, 1 << 24 * (n + 2), n + 1<<32, 1 << 61, math.MaxInt - 1, math.MaxInt}
	for _, wrong := range append(under, over...) {
		for _, other := range slices.Concat(under, over, []int{0, n / 2, n}) {
			for _, from := range []int{wrong, other} {
				to := wrong + other - from
				if l, e := c.Some(from, to); len(l) != 0 || e != api.ErrArg {
					t.Errorf("%s: of %d rows from %d, below %d: %d, the error %d", name, n, from, to, l, e)
				}
			}
		}
	}
}

// of is a column that is made without an error.
func of(t *testing.T, l []int64) *metric.Column {
	t.Helper()
	c, e := metric.Of(l)
	if c == nil || e != api.OK {
		t.Fatalf("of %d numbers: the error %d", len(l), e)
	}
	return c
}

// read is a column that is read without an error.
func read(t *testing.T, b []byte, rows int) *metric.Column {
	t.Helper()
	c, e := metric.Read(b, rows)
	if c == nil || e != api.OK {
		t.Fatalf("%d bytes, % x first, %d rows: the error %d", len(b), b[:min(len(b), 36)], rows, e)
	}
	return c
}

// checkNotRead tells whether Read tells nothing but an error.
func checkNotRead(t *testing.T, name string, b []byte, rows int, want api.Errno) {
	t.Helper()
	if c, e := metric.Read(b, rows); c != nil || e != want {
		t.Errorf("%s, %d bytes, % x first, %d rows: %t, the error %d, not %d", name, len(b), b[:min(len(b), 36)], rows, c != nil, e, want)
	}
}

// checkAsMet tells whether Read tells of b what the chapter's words do.
func checkAsMet(t *testing.T, name string, b []byte, rows int) {
	t.Helper()
	l, want := meets(b, rows)
	if want != api.OK {
		checkNotRead(t, name, b, rows, want)
		return
	}
	c := read(t, b, rows)
	check(t, name, c, l)
	if !bytes.Equal(c.Bytes(), b) {
		t.Errorf("%s, % x: its bytes are other ones", name, b)
	}
}

// spoil changes all that stands in a row, and in the room behind it.
func spoil[T any](l []T, with T) {
	l = l[:cap(l)]
	for i := range l {
		l[i] = with
	}
}

// numbersOf is a row of numbers from a short rule, each below what is asked.
func numbersOf() func(below int) int {
	seed := uint64(1)
	return func(below int) int {
		seed = seed*6364136223846793005 + 1442695040888963407
		return int(seed >> 33 % uint64(below))
	}
}
