package dict_test

import (
	"bytes"
	"encoding/binary"
	"math"
	"slices"
	"strings"
	"testing"

	"isinglass/api"
	"isinglass/dict"
	"isinglass/values"
)

// kinds are the kinds that there are.
func kinds() []uint8 { return []uint8{api.KindInt, api.KindText} }

// none are the kinds that are none.
func none() []uint8 {
	l := []uint8{0}
	for kind := range 253 {
		l = append(l, uint8(kind+3))
	}
	return l
}

// ints are whole numbers at which a byte or a sign changes, rising.
func ints() []api.Value {
	var l []api.Value
	for _, n := range []int64{
		math.MinInt64, math.MinInt64 + 1, math.MinInt32, -65536, -257, -256, -128, -2, -1,
		0, 1, 2, 127, 128, 255, 256, 65535, 65536, 1 << 31, 1 << 32, math.MaxInt64 - 1, math.MaxInt64,
	} {
		l = append(l, values.Int(n))
	}
	return l
}

// texts are texts of any bytes, rising: some begin others, some are no letters, one is as long as may be.
func texts() []api.Value {
	var l []api.Value
	for _, s := range []string{
		"", "\x00", "\x00\x00", "\x00a", " ", "-1", "1", "10", "2", "A", "a", "a\x00", "aa", "ab", "b",
		strings.Repeat("c", 127), strings.Repeat("c", 128), strings.Repeat("c", 300), strings.Repeat("c", api.MaxText-1), strings.Repeat("c", api.MaxText),
		"\x7f", "\x80", "\xc3\xa4", "\xff", "\xff\x00", "\xff\xff",
	} {
		l = append(l, values.Text(s))
	}
	return l
}

// right are values of a kind that may be, rising.
func right(kind uint8) []api.Value {
	if kind == api.KindInt {
		return ints()
	}
	return texts()
}

// other is the kind that is not that one.
func other(kind uint8) uint8 { return api.KindInt + api.KindText - kind }

// wrong are values that may not be, of both kinds and of none.
func wrong() []api.Value {
	long := strings.Repeat("c", api.MaxText+1)
	return []api.Value{
		{}, {S: "a"}, {N: 7}, {Kind: 3}, {Kind: 3, N: 1}, {Kind: 3, S: "a"}, {Kind: 255}, {Kind: 255, N: -1, S: "b"},
		{Kind: api.KindInt, S: "a"}, {Kind: api.KindInt, N: -1, S: "\x00"}, {Kind: api.KindInt, N: 5, S: long},
		{Kind: api.KindText, N: 1}, {Kind: api.KindText, N: -1, S: "a"}, {Kind: api.KindText, S: long}, {Kind: api.KindText, N: 1, S: long},
	}
}

// lists are lists of values of a kind that may be, rising: of none, one and many.
func lists(kind uint8) [][]api.Value {
	l := right(kind)
	told := [][]api.Value{nil, {}, l[:2], l[4:9], l}
	for _, v := range l {
		told = append(told, []api.Value{v})
	}
	var odd []api.Value
	for i := 1; i < len(l); i += 2 {
		odd = append(odd, l[i])
	}
	return append(told, odd)
}

// ahead is by layer 10's words whether a comes first of two values that are not the same.
func ahead(a, b api.Value) bool {
	switch {
	case a.Kind != b.Kind:
		return a.Kind < b.Kind
	case a.N != b.N:
		return a.N < b.N
	}
	for i := range min(len(a.S), len(b.S)) {
		if a.S[i] != b.S[i] {
			return a.S[i] < b.S[i]
		}
	}
	return len(a.S) < len(b.S)
}

// so is by the chapter's words whether a is so to v.
func so(cmp uint8, a, v api.Value) bool {
	return [...]bool{
		api.CmpEqual: a == v, api.CmpUnlike: a != v,
		api.CmpLess: ahead(a, v), api.CmpAtMost: !ahead(v, a),
		api.CmpMore: ahead(v, a), api.CmpAtLeast: !ahead(a, v),
	}[cmp]
}

// bytesOf is by the chapter's words the bytes of a dictionary.
func bytesOf(kind uint8, l []api.Value) []byte {
	return append(head(kind, len(l)), tail(l)...)
}

// head is the bytes ahead of n values.
func head(kind uint8, n int) []byte {
	return binary.LittleEndian.AppendUint32([]byte{kind}, uint32(n))
}

// tail is the bytes of values, each of a kind that there is.
func tail(l []api.Value) []byte {
	var b []byte
	for _, v := range l {
		if v.Kind == api.KindInt {
			b = binary.LittleEndian.AppendUint64(b, uint64(v.N))
		} else {
			b = append(binary.AppendUvarint(b, uint64(len(v.S))), v.S...)
		}
	}
	return b
}

// account is what a reader from the first byte on tells of bytes: the values, or what is wrong first.
type account struct {
	kind uint8
	l    []api.Value
	e    api.Errno
}

// meets is by the chapter's words what a reader from the first byte on tells of b.
func meets(b []byte) account {
	switch {
	case len(b) == 0:
		return account{e: api.ErrShort}
	case b[0] != 1 && b[0] != 2:
		return account{e: api.ErrForm}
	case len(b) < 5:
		return account{e: api.ErrShort}
	}
	told := account{kind: b[0]}
	n := binary.LittleEndian.Uint32(b[1:])
	if n > 1<<24 {
		return account{e: api.ErrLong}
	}
	b = b[5:]
	for i := range int(n) {
		v, size, e := meetsValue(told.kind, b)
		switch {
		case e != api.OK:
			return account{e: e}
		case i > 0 && !ahead(told.l[i-1], v):
			return account{e: api.ErrForm}
		}
		told.l = append(told.l, v)
		b = b[size:]
	}
	if len(b) > 0 {
		return account{e: api.ErrForm}
	}
	return told
}

// meetsValue is the value of that kind at the head of b, and how many bytes it has.
func meetsValue(kind uint8, b []byte) (v api.Value, size int, e api.Errno) {
	if kind == api.KindInt {
		if len(b) < 8 {
			return v, 0, api.ErrShort
		}
		return values.Int(int64(binary.LittleEndian.Uint64(b))), 8, api.OK
	}
	n, at, e := meetsLength(b)
	switch {
	case e != api.OK:
		return v, 0, e
	case len(b)-at < n:
		return v, 0, api.ErrShort
	}
	return values.Text(string(b[at : at+n])), at + n, api.OK
}

// meetsLength is the length of a text at the head of b, and how many bytes stand for it, gone over byte by byte.
func meetsLength(b []byte) (n, size int, e api.Errno) {
	sum := uint64(0)
	for i, x := range b {
		if i > 0 && x == 0 || i == 9 && x > 1 { // it needs no such byte; it is not below 2^64
			return 0, 0, api.ErrForm
		}
		sum += uint64(x%128) << (7 * i)
		if x < 128 && sum > 65535 {
			return 0, 0, api.ErrForm
		}
		if x < 128 {
			return int(sum), i + 1, api.OK
		}
	}
	return 0, 0, api.ErrShort
}

// show tells a value in few letters.
func show(v api.Value) api.Value {
	v.S = v.S[:min(len(v.S), 8)]
	return v
}

// check tells whether a dictionary has just some values, that rise, by all that it is asked but intervals.
func check(t *testing.T, name string, d *dict.Dict, kind uint8, l []api.Value) {
	t.Helper()
	if d == nil {
		t.Fatalf("%s: the dictionary is not there", name)
	}
	if d.Kind() != kind || d.Len() != len(l) {
		t.Fatalf("%s: %d values of the kind %d, not %d of %d", name, d.Len(), d.Kind(), len(l), kind)
	}
	for id, v := range l {
		if got, e := d.Value(id); got != v || e != api.OK {
			t.Errorf("%s: the value of %d is %v, the error %d, not %v", name, id, show(got), e, show(v))
		}
		if got, there := d.Find(v); got != id || !there {
			t.Errorf("%s: the id of %v is %d, %t, not %d", name, show(v), got, there, id)
		}
	}
	next := 0
	for id, v := range d.All() {
		if next >= len(l) || id != next || v != l[next] {
			t.Fatalf("%s: All tells %d, %v as the value %d of %d", name, id, show(v), next, len(l))
		}
		next++
	}
	if next != len(l) {
		t.Errorf("%s: All tells %d values, not %d", name, next, len(l))
	}
	if b := d.Bytes(); !bytes.Equal(b, bytesOf(kind, l)) {
		t.Errorf("%s: Bytes of %d values is %d bytes that are not its %d", name, len(l), len(b), len(bytesOf(kind, l)))
	}
}

// of is a dictionary that is made without an error.
func of(t *testing.T, kind uint8, l []api.Value) *dict.Dict {
	t.Helper()
	d, e := dict.Of(kind, l)
	if d == nil || e != api.OK {
		t.Fatalf("of %d values of the kind %d: the error %d", len(l), kind, e)
	}
	return d
}

// checkNotMade tells whether Of tells nothing but an error.
func checkNotMade(t *testing.T, name string, kind uint8, l []api.Value, want api.Errno) {
	t.Helper()
	if d, e := dict.Of(kind, l); d != nil || e != want {
		t.Errorf("%s, %d values, of the kind %d: %t, the error %d, not %d", name, len(l), kind, d != nil, e, want)
	}
}

// checkNotRead tells whether Read tells nothing but an error.
func checkNotRead(t *testing.T, name string, b []byte, want api.Errno) {
	t.Helper()
	if d, e := dict.Read(b); d != nil || e != want {
		t.Errorf("%s, %d bytes, % x first: %t, the error %d, not %d", name, len(b), b[:min(len(b), 24)], d != nil, e, want)
	}
}

// checkAsMet tells whether Read tells of b what a reader from the first byte on meets.
func checkAsMet(t *testing.T, name string, b []byte) {
	t.Helper()
	want := meets(b)
	if want.e != api.OK {
		checkNotRead(t, name, b, want.e)
		return
	}
	d, e := dict.Read(b)
	if e != api.OK {
		t.Fatalf("%s, %d bytes, % x first: the error %d", name, len(b), b[:min(len(b), 24)], e)
	}
	check(t, name, d, want.kind, want.l)
	if !bytes.Equal(d.Bytes(), b) {
		t.Errorf("%s, % x: its bytes are other ones", name, b[:min(len(b), 24)])
	}
}

// orders are the values of l in other orders, some more than once; l is not empty.
func orders(l []api.Value) [][]api.Value {
	back := slices.Clone(l)
	slices.Reverse(back)
	var twice, mixed []api.Value
	for _, v := range l {
		twice = append(twice, v, v)
	}
	for i := range 7 * len(l) { // by fives, one further on each time round, so that each is met
		mixed = append(mixed, l[(i*5+i/len(l))%len(l)])
	}
	return [][]api.Value{l, back, twice, slices.Concat(l, l), slices.Concat(l, back), slices.Concat(back, l), slices.Concat(l[1:], l[:1], l), mixed}
}

// asked are the dictionaries that are not there, or zero, by their names.
func asked() map[string]*dict.Dict {
	return map[string]*dict.Dict{"one that is not there": nil, "a zero one": {}}
}

// spoil changes all that stands in a row, and in the room behind it.
func spoil[T any](l []T, with T) {
	l = l[:cap(l)]
	for i := range l {
		l[i] = with
	}
}
