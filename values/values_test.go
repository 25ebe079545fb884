package values_test

import (
	"bytes"
	"math"
	"slices"
	"strings"
	"testing"

	"isinglass/api"
	"isinglass/cursor"
	"isinglass/values"
)

// P10.1

func TestMayBe(t *testing.T) {
	for _, v := range right() {
		if !values.May(v) {
			kind, n, size, head := name(v)
			t.Errorf("of the kind %d, %d, %d bytes %q: may not be", kind, n, size, head)
		}
	}
	for _, v := range wrong() {
		if values.May(v) {
			kind, n, size, head := name(v)
			t.Errorf("of the kind %d, %d, %d bytes %q: may be", kind, n, size, head)
		}
	}
}

func TestCompareExamples(t *testing.T) {
	for _, c := range []struct {
		a, b api.Value
		want int
	}{
		{values.Int(-1), values.Int(1), -1},
		{values.Text("b"), values.Text("a"), 1},
		{values.Int(5), values.Text("a"), -1},
		{values.Int(math.MaxInt64), values.Text(""), -1},
		{values.Int(math.MinInt64), values.Int(math.MaxInt64), -1},
		{values.Int(math.MaxInt64), values.Int(math.MinInt64), 1},
		{values.Int(0), values.Int(0), 0},
		{values.Text(""), values.Text(""), 0},
		{values.Text("a"), values.Text("ab"), -1},
		{values.Text("b"), values.Text("ab"), 1},
		{values.Text("\xff"), values.Text("a"), 1},
		{api.Value{Kind: 2, N: 1}, api.Value{Kind: 2, S: "z"}, 1},
		{api.Value{Kind: 1, N: -1, S: "b"}, api.Value{Kind: 1, S: "a"}, -1},
		{api.Value{Kind: 1, N: 5, S: "b"}, api.Value{Kind: 1, N: 5, S: "a"}, 1},
		{api.Value{Kind: 255}, api.Value{Kind: 0, N: 9, S: "z"}, 1},
		{api.Value{}, api.Value{}, 0},
	} {
		if got := values.Compare(c.a, c.b); got != c.want {
			t.Errorf("%v and %v: %d, not %d", c.a, c.b, got, c.want)
		}
	}
}

func TestCompareOfTheOnesInOrder(t *testing.T) {
	l := right()
	for i, a := range l {
		for j, b := range l {
			want := 0
			if i < j {
				want = -1
			} else if i > j {
				want = 1
			}
			if got := values.Compare(a, b); got != want {
				t.Errorf("the values %d and %d: %d, not %d", i, j, got, want)
			}
		}
	}
}

// some are values of a few kinds, numbers and texts, in all ways in which these go together: few of them may be.
func some() []api.Value {
	var l []api.Value
	for _, kind := range []uint8{0, 1, 2, 3, 255} {
		for _, n := range []int64{math.MinInt64, -1, 0, 1, math.MaxInt64} {
			for _, s := range []string{"", "\x00", "a", "ab", "b", "\xff"} {
				l = append(l, api.Value{Kind: kind, N: n, S: s})
			}
		}
	}
	return l
}

func TestCompareOfAnyValues(t *testing.T) {
	l := append(some(), wrong()...)
	for _, a := range l {
		for _, b := range l {
			want := 1
			if a == b {
				want = 0
			} else if ahead(a, b) {
				want = -1
			}
			if got := values.Compare(a, b); got != want {
				t.Fatalf("%v and %v: %d, not %d", a, b, got, want)
			}
		}
	}
}

func TestOrderIsOneOfAllValues(t *testing.T) {
	l := some()
	for _, a := range l {
		for _, b := range l {
			ab := values.Compare(a, b)
			if ab != -values.Compare(b, a) || ab == 0 && a != b {
				t.Fatalf("%v and %v: %d, and turned round %d", a, b, ab, values.Compare(b, a))
			}
			if ab > 0 {
				continue
			}
			for _, c := range l {
				if bc := values.Compare(b, c); bc <= 0 && values.Compare(a, c) != min(ab, bc) {
					t.Fatalf("%v, %v and %v are not in order", a, b, c)
				}
			}
		}
	}
}

func TestIntAndText(t *testing.T) {
	for _, n := range numbers() {
		if v := values.Int(n); v != (api.Value{Kind: api.KindInt, N: n}) || !values.May(v) {
			t.Errorf("%d: %v", n, v)
		}
	}
	for _, s := range texts() {
		if v := values.Text(s); v != (api.Value{Kind: api.KindText, S: s}) || !values.May(v) {
			t.Errorf("%d bytes %q", len(s), s[:min(len(s), 8)])
		}
	}
	for _, s := range longTexts() {
		if v := values.Text(s); v != (api.Value{Kind: api.KindText, S: s}) || values.May(v) {
			t.Errorf("%d bytes %q", len(s), s[:8])
		}
	}
}

// P10.2: Append

func TestAppendExamples(t *testing.T) {
	for _, c := range []struct {
		v    api.Value
		want string
	}{
		{values.Int(-1), "\xff\xff\xff\xff\xff\xff\xff\xff"},
		{values.Int(0), "\x00\x00\x00\x00\x00\x00\x00\x00"},
		{values.Int(1), "\x01\x00\x00\x00\x00\x00\x00\x00"},
		{values.Int(0x0102030405060708), "\x08\x07\x06\x05\x04\x03\x02\x01"},
		{values.Int(math.MinInt64), "\x00\x00\x00\x00\x00\x00\x00\x80"},
		{values.Int(math.MaxInt64), "\xff\xff\xff\xff\xff\xff\xff\x7f"},
		{values.Text("ab"), "\x02ab"},
		{values.Text(""), "\x00"},
		{values.Text("\x00\xff"), "\x02\x00\xff"},
		{api.Value{Kind: api.KindInt, N: 2, S: "ab"}, "\x02\x00\x00\x00\x00\x00\x00\x00"},
		{api.Value{Kind: api.KindText, N: 2, S: "c"}, "\x01c"},
		{api.Value{}, ""},
		{api.Value{Kind: 3, N: 5, S: "a"}, ""},
		{api.Value{Kind: 255, N: 5, S: "a"}, ""},
	} {
		if got := values.Append(nil, c.v); string(got) != c.want {
			t.Errorf("%v: % x, not % x", c.v, got, c.want)
		}
	}
}

func TestAppendPutsBytesBehind(t *testing.T) {
	for _, v := range append(right(), wrong()...) {
		for _, b := range [][]byte{nil, {}, {0}, {255, 1, 2}, bytes.Repeat([]byte{7}, 1000)} {
			if got := values.Append(b, v); !bytes.Equal(got, slices.Concat(b, bytesOf(v))) {
				kind, n, size, head := name(v)
				t.Errorf("of the kind %d, %d, %d bytes %q: %d bytes behind %d", kind, n, size, head, len(got), len(b))
			}
		}
	}
}

func TestAppendHasMemoryOfItsOwn(t *testing.T) {
	for _, v := range []api.Value{values.Int(5), values.Text("ab"), values.Text(""), {}, {Kind: 9, N: 1, S: "a"}} {
		room := bytes.Repeat([]byte{9}, 64)
		b := room[:3]
		got := values.Append(b, v)
		if !bytes.Equal(room, bytes.Repeat([]byte{9}, 64)) {
			t.Errorf("%v: b, or what is behind it, has changed", v)
		}
		other := values.Append(b, values.Int(-1))
		for i := range got {
			got[i] = 1
		}
		if !bytes.Equal(room, bytes.Repeat([]byte{9}, 64)) || !bytes.Equal(other[:3], room[:3]) {
			t.Errorf("%v: what is told shares memory", v)
		}
		got = append(got, 3)
		if !bytes.Equal(room, bytes.Repeat([]byte{9}, 64)) {
			t.Errorf("%v: what is put behind what is told is seen", v)
		}
	}
}

// P10.2: Read

func TestReadTellsWhatIsWritten(t *testing.T) {
	for _, v := range right() {
		b := values.Append([]byte{3}, v)
		for _, behind := range []string{"", "\x00", "\x80\x01"} {
			r := cursor.New(append(bytes.Clone(b), behind...))
			r.U8()
			got, ok := values.Read(r, v.Kind)
			if !ok || got != v || r.Bad() || r.At() != len(b) || r.Left() != len(behind) {
				kind, n, size, head := name(v)
				t.Errorf("of the kind %d, %d, %d bytes %q: %t, at %d, %d left", kind, n, size, head, ok, r.At(), r.Left())
			}
		}
	}
}

func TestReadOneBehindTheOther(t *testing.T) {
	l := right()
	slices.SortFunc(l, func(a, b api.Value) int { return bytes.Compare(bytesOf(a), bytesOf(b)) }) // so that kinds stand mixed
	var b []byte
	for _, v := range l {
		b = values.Append(b, v)
	}
	r := cursor.New(b)
	for i, v := range l {
		if got, ok := values.Read(r, v.Kind); !ok || got != v {
			t.Fatalf("the value %d: %t", i, ok)
		}
	}
	if r.Bad() || r.Left() != 0 {
		t.Errorf("bad %t, %d left", r.Bad(), r.Left())
	}
	checkRefused(t, r, api.KindText, "no bytes")
}

// Of a value that may not be just the part that its kind has is read again.
func TestReadTellsThePartThatIsWritten(t *testing.T) {
	for _, v := range []api.Value{{Kind: api.KindInt, N: -7, S: "abc"}, {Kind: api.KindText, N: -7, S: "abc"}} {
		want := values.Int(-7)
		if v.Kind == api.KindText {
			want = values.Text("abc")
		}
		if got, ok := values.Read(cursor.New(values.Append(nil, v)), v.Kind); !ok || got != want {
			t.Errorf("%v: %t, %v", v, ok, got)
		}
	}
}

func TestReadOfNoKind(t *testing.T) {
	for kind := range 256 {
		if k := uint8(kind); k != api.KindInt && k != api.KindText {
			for _, v := range []api.Value{values.Int(5), values.Text("abcdefgh"), values.Text("")} {
				checkRefused(t, cursor.New(values.Append(nil, v)), k, "right bytes")
			}
			checkRefused(t, cursor.New(nil), k, "no bytes")
			checkRefused(t, nil, k, "no reader")
			checkRefused(t, badReader(), k, "a bad reader")
		}
	}
}

// badReader is a reader that is bad, though there are bytes of values of both kinds.
func badReader() *cursor.Reader {
	r := cursor.New(make([]byte, 8))
	r.Bytes(9)
	return r
}

func TestReadOfAReaderThatIsBad(t *testing.T) {
	for _, kind := range []uint8{api.KindInt, api.KindText} {
		checkRefused(t, nil, kind, "no reader")
		checkRefused(t, new(cursor.Reader), kind, "a zero reader")
		checkRefused(t, cursor.New(nil), kind, "no bytes")
		r := badReader()
		checkRefused(t, r, kind, "a bad reader")
		if !r.Bad() {
			t.Error("a bad reader is bad no more")
		}
	}
}

func TestReadOfCutBytes(t *testing.T) {
	for _, v := range []api.Value{values.Int(0), values.Int(-1), values.Int(1), values.Text(""), values.Text("a"), values.Text("ab"), values.Text(strings.Repeat("c", 128))} {
		b := values.Append([]byte{1}, v)
		for n := 1; n < len(b); n++ {
			r := cursor.New(b[:n])
			r.U8()
			checkRefused(t, r, v.Kind, "cut bytes")
			if !r.Bad() {
				t.Errorf("%v, cut at %d: the reader is not bad", v, n)
			}
		}
	}
	b := values.Append(nil, values.Text(strings.Repeat("c", api.MaxText)))
	checkRefused(t, cursor.New(b[:len(b)-1]), api.KindText, "a long text, cut")
	checkRefused(t, cursor.New(b[:3]), api.KindText, "a long text's size")
}

func TestReadOfATextThatIsTooLong(t *testing.T) {
	for _, size := range []uint64{
		api.MaxText + 1, api.MaxText + 2, 1<<17 - 1, 1 << 17, 1 << 31, 1<<32 - 1, 1 << 32, 1<<32 + 1, 1<<32 + 2,
		1<<63 - 1, 1 << 63, 1<<63 + 1, math.MaxUint64 - 1, math.MaxUint64,
	} {
		b := append(cursor.AppendUint(nil, size), bytes.Repeat([]byte{1}, 1<<18)...)
		checkRefused(t, cursor.New(b), api.KindText, "a text too long")
	}
}

func TestReadOfASizeThatIsNotInItsOneForm(t *testing.T) {
	for _, head := range []string{
		"\x80\x00", "\x81\x00", "\x82\x80\x00", "\xff\x00", "\xff\xff\x83\x00",
		"\x80\x80\x80\x80\x80\x80\x80\x80\x80\x00", "\x81\x80\x80\x80\x80\x80\x80\x80\x80\x02", "\xff\xff\xff\xff\xff\xff\xff\xff\xff\x7f",
		"\x80\x80\x80\x80\x80\x80\x80\x80\x80\x80\x01",
	} {
		b := append([]byte(head), bytes.Repeat([]byte{1}, 1<<17)...)
		checkRefused(t, cursor.New(b), api.KindText, "a size in no right form")
	}
}

func TestReadOfAnyBytes(t *testing.T) {
	seed := uint64(1)
	for range 20000 {
		b := make([]byte, seed>>60)
		for i := range b {
			seed = seed*6364136223846793005 + 1442695040888963407
			b[i] = byte(seed>>56) & (3<<6 | 15)
		}
		seed = seed*6364136223846793005 + 1442695040888963407
		for _, kind := range []uint8{api.KindInt, api.KindText} {
			r := cursor.New(b)
			v, ok := values.Read(r, kind)
			switch {
			case ok && (v.Kind != kind || !values.May(v) || !bytes.Equal(values.Append(nil, v), b[:r.At()])):
				t.Fatalf("% x: %v, up to %d", b, v, r.At())
			case !ok && v != api.Value{}:
				t.Fatalf("% x: %v", b, v)
			case !ok && (kind == api.KindInt && len(b) >= 8 || kind == api.KindText && len(b) > 0 && int(b[0]) < len(b) && b[0] < 128):
				t.Fatalf("% x: nothing is read as of the kind %d", b, kind)
			}
		}
	}
}

func TestReadHasMemoryOfItsOwn(t *testing.T) {
	b := values.Append(nil, values.Text("ab"))
	r := cursor.New(append(bytes.Clone(b), b...))
	one, _ := values.Read(r, api.KindText)
	again := values.Append(nil, one)
	again[1] = 'x'
	two, ok := values.Read(r, api.KindText)
	if one != values.Text("ab") || !ok || two != one || string(b) != "\x02ab" {
		t.Errorf("%v, %v, % x", one, two, b)
	}
	handed := values.Append(nil, values.Text("cd"))
	r = cursor.New(handed)
	three, _ := values.Read(r, api.KindText)
	handed[1] = 'x'
	if three != values.Text("cd") {
		t.Errorf("a change of the bytes is seen: %v", three)
	}
}
