package forward_test

import (
	"bytes"
	"encoding/binary"
	"math"
	"slices"
	"testing"

	"isinglass/api"
	"isinglass/forward"
)

// manies are how many ids there may be where there are rows: at the edges of widths, and of what may be.
func manies() []int {
	return []int{
		1, 2, 3, 4, 5, 7, 8, 9, 15, 16, 17, 100, 127, 128, 129, 255, 256, 257, 1000,
		1<<15 - 1, 1 << 15, 1<<15 + 1, 1<<16 - 1, 1 << 16, 1<<16 + 1, 1<<23 - 1, 1 << 23, 1<<23 + 1, api.MaxIDs - 1, api.MaxIDs,
	}
}

// noManies are how many ids there may not be, whatever rows there are.
func noManies() []int {
	return []int{
		-1, -2, -8, -api.MaxIDs, math.MinInt32, -1 << 32, 1 - 1<<32, 3 - 1<<32, math.MinInt, math.MinInt + 3,
		api.MaxIDs + 1, api.MaxIDs + 2, 1 << 25, math.MaxInt32, 1 << 31, math.MaxUint32, 1 << 32, 1<<32 + 1, 1<<32 + 3, 1<<40 + 3, math.MaxInt,
	}
}

// noIDs are the ids that may not be, if there may be so many.
func noIDs(many int) []int {
	return []int{
		many, many + 1, 2 * many, many + api.MaxIDs, 1 << 31, 1 << 32, 1<<32 + many - 1, math.MaxInt - 1, math.MaxInt,
		-1, -2, -many, math.MinInt32, -1 << 32, many - 1 - 1<<32, math.MinInt, math.MinInt + many - 1,
	}
}

// some are n ids below many, among them the least and the greatest: from a short rule that goes through all their bits.
func some(n, many int) []int {
	ids := make([]int, n)
	for i := range ids {
		switch {
		case i%5 == 2:
			ids[i] = many - 1
		case i%7 != 3:
			ids[i] = int((uint64(i)*0x9e3779b97f4a7c15 + 0x7f4a7c15) >> 20 % uint64(many))
		}
	}
	return ids
}

// all are rows of ids of none, one and many, for each how many there may be: their last bit is each one of a byte.
func all(call func(ids []int, many int)) {
	call(nil, 0)
	call([]int{}, 0)
	for _, many := range manies() {
		call(nil, many)
		for _, id := range []int{0, many / 2, many - 1} {
			call([]int{id}, many)
			call(slices.Repeat([]int{id}, 11), many)
		}
		for n := range 20 {
			call(some(n, many), many)
		}
		call(some(100, many), many)
	}
}

// width is by the chapter's words the width of ids below many.
func width(many int) int {
	w := 1
	for 1<<w < many {
		w++
	}
	return w
}

// head is by the chapter's words what stands ahead of the ids.
func head(rows, many uint32, width byte) []byte {
	b := binary.LittleEndian.AppendUint32(nil, rows)
	return append(binary.LittleEndian.AppendUint32(b, many), width)
}

// tail is by layer 2's words the packed ids, bit by bit.
func tail(ids []int, width int) []byte {
	var bits []int
	for _, id := range ids {
		for k := range width {
			bits = append(bits, id>>k&1)
		}
	}
	b := make([]byte, (len(bits)+7)/8)
	for i, bit := range bits {
		b[i/8] += byte(bit << (i % 8))
	}
	return b
}

// bytesOf is by the chapter's words the bytes of an index.
func bytesOf(ids []int, many int) []byte {
	w := width(many)
	return append(head(uint32(len(ids)), uint32(many), byte(w)), tail(ids, w)...)
}

// meets is by the chapter's words what Read tells of b: the ids, or what is wrong first.
func meets(b []byte, rows, many int) ([]int, api.Errno) {
	if len(b) < 9 {
		return nil, api.ErrShort
	}
	hasRows, hasMany := int(binary.LittleEndian.Uint32(b)), int(binary.LittleEndian.Uint32(b[4:]))
	if hasRows > 16777216 {
		return nil, api.ErrLong
	}
	if hasRows != rows || hasMany != many {
		return nil, api.ErrForm
	}
	if many > 16777216 || many == 0 && rows > 0 || int(b[8]) != width(many) {
		return nil, api.ErrForm
	}
	w, b := width(many), b[9:]
	if len(b) < (rows*w+7)/8 {
		return nil, api.ErrShort
	}
	if len(b) > (rows*w+7)/8 {
		return nil, api.ErrForm
	}
	ids := make([]int, rows)
	for i := range 8 * len(b) {
		bit := int(b[i/8]) >> (i % 8) & 1
		if i >= rows*w && bit == 1 {
			return nil, api.ErrForm
		}
		if i < rows*w {
			ids[i/w] += bit << (i % w)
		}
	}
	if slices.ContainsFunc(ids, func(id int) bool { return id >= many }) {
		return nil, api.ErrForm
	}
	return ids, api.OK
}

// check tells whether an index has just those ids, by all that it is asked.
func check(t *testing.T, name string, x *forward.Index, ids []int, many int) {
	t.Helper()
	if x == nil {
		t.Fatalf("%s: the index is not there", name)
	}
	if x.Len() != len(ids) || x.Many() != many || x.Width() != width(many) {
		t.Fatalf("%s: %d rows, many %d, width %d, not %d, %d, %d", name, x.Len(), x.Many(), x.Width(), len(ids), many, width(many))
	}
	for row, id := range ids {
		if got, e := x.Get(row); got != id || e != api.OK {
			t.Errorf("%s: the id of %d is %d, the error %d, not %d", name, row, got, e, id)
		}
	}
	checkNoRows(t, name, x, len(ids))
	checkAll(t, name, x, ids)
	checkCounts(t, name, x, ids, many)
	if b := x.Bytes(); !bytes.Equal(b, bytesOf(ids, many)) {
		t.Errorf("%s: Bytes of %d ids below %d: % x, not % x", name, len(ids), many, b, bytesOf(ids, many))
	}
}

// checkNoRows tells whether there are no rows but the first n.
func checkNoRows(t *testing.T, name string, x *forward.Index, n int) {
	t.Helper()
	for _, row := range []int{n, n + 1, n + 8, 1 << 24, 1 << 32, 1 << 40, 1 << 60, math.MaxInt, -1, -2, -n - 1, -1 << 32, n - 1 - 1<<32, math.MinInt} {
		if 0 <= row && row < n {
			continue
		}
		if id, e := x.Get(row); id != 0 || e != api.ErrNone {
			t.Errorf("%s: of %d rows the row %d is %d, the error %d", name, n, row, id, e)
		}
	}
}

// checkAll tells whether All tells just those ids, by rising rows.
func checkAll(t *testing.T, name string, x *forward.Index, ids []int) {
	t.Helper()
	next := 0
	for row, id := range x.All() {
		if next >= len(ids) || row != next || id != ids[next] {
			t.Fatalf("%s: All tells %d, %d as the row %d of %d", name, row, id, next, len(ids))
		}
		next++
	}
	if next != len(ids) {
		t.Errorf("%s: All tells %d rows, not %d", name, next, len(ids))
	}
}

// checkCounts tells whether Count is how many rows have an id, of ids that are there, that are not, and that may not be.
func checkCounts(t *testing.T, name string, x *forward.Index, ids []int, many int) {
	t.Helper()
	counts := map[int]int{}
	for _, id := range ids {
		counts[id]++
	}
	sum := 0
	for id, n := range counts {
		sum += x.Count(id)
		if got := x.Count(id); got != n {
			t.Errorf("%s: Count of %d is %d, not %d", name, id, got, n)
		}
	}
	if sum != x.Len() {
		t.Errorf("%s: the counts together are %d, the rows %d", name, sum, x.Len())
	}
	for _, id := range append(noIDs(many), 0, 1, many/2, many/3, many-2, many-1) {
		if got := x.Count(id); got != counts[id] {
			t.Errorf("%s: below %d, Count of %d is %d, not %d", name, many, id, got, counts[id])
		}
	}
}

// of is an index that is made without an error.
func of(t *testing.T, ids []int, many int) *forward.Index {
	t.Helper()
	x, e := forward.Of(ids, many)
	if x == nil || e != api.OK {
		t.Fatalf("of %d ids below %d: the error %d", len(ids), many, e)
	}
	return x
}

// checkNotMade tells whether Of tells nothing but an error.
func checkNotMade(t *testing.T, name string, ids []int, many int, want api.Errno) {
	t.Helper()
	if x, e := forward.Of(ids, many); x != nil || e != want {
		t.Errorf("%s, %d ids, below %d: %t, the error %d, not %d", name, len(ids), many, x != nil, e, want)
	}
}

// checkNotRead tells whether Read tells nothing but an error.
func checkNotRead(t *testing.T, name string, b []byte, rows, many int, want api.Errno) {
	t.Helper()
	if x, e := forward.Read(b, rows, many); x != nil || e != want {
		t.Errorf("%s, %d bytes, % x first, %d rows, many %d: %t, the error %d, not %d", name, len(b), b[:min(len(b), 24)], rows, many, x != nil, e, want)
	}
}

// checkAsMet tells whether Read tells of b what the chapter's words do.
func checkAsMet(t *testing.T, name string, b []byte, rows, many int) {
	t.Helper()
	ids, want := meets(b, rows, many)
	if want != api.OK {
		checkNotRead(t, name, b, rows, many, want)
		return
	}
	x, e := forward.Read(b, rows, many)
	if e != api.OK {
		t.Fatalf("%s, % x, %d rows, many %d: the error %d", name, b, rows, many, e)
	}
	check(t, name, x, ids, many)
	if !bytes.Equal(x.Bytes(), b) {
		t.Errorf("%s, % x: its bytes are other ones", name, b)
	}
}

// spoil changes all that stands in a row, and in the room behind it.
func spoil[T any](l []T, with T) {
	l = l[:cap(l)]
	for i := range l {
		l[i] = with
	}
}

// numbersOf is a row of numbers from a short rule, each below what is asked.
func numbersOf() func(below int) int {
	seed := uint64(1)
	return func(below int) int {
		seed = seed*6364136223846793005 + 1442695040888963407
		return int(seed >> 33 % uint64(below))
	}
}
