package cursor_test

import (
	"bytes"
	"encoding/binary"
	"math"
	"testing"

	"isinglass/cursor"
)

// edges are numbers at which a byte, or seven bits, are full, and their neighbours.
func edges() []uint64 {
	l := []uint64{0, 1, 2, 300, 513, math.MaxUint64}
	for i := range 64 {
		l = append(l, 1<<i-1, 1<<i, 1<<i+1)
	}
	return l
}

// appends are the four calls, each with what it puts behind b by the library's account.
func appends(n uint64) (got [][]byte, want [][]byte) {
	var whole [8]byte
	binary.LittleEndian.PutUint64(whole[:], n)
	got = [][]byte{
		cursor.AppendU16(nil, uint16(n)),
		cursor.AppendU32(nil, uint32(n)),
		cursor.AppendU64(nil, n),
		cursor.AppendUint(nil, n),
	}
	return got, [][]byte{whole[:2], whole[:4], whole[:8], binary.AppendUvarint(nil, n)}
}

// P1.1

func TestAppendExamples(t *testing.T) {
	for _, c := range []struct{ got, want []byte }{
		{cursor.AppendU16(nil, 0x0102), []byte{2, 1}},
		{cursor.AppendU32(nil, 258), []byte{2, 1, 0, 0}},
		{cursor.AppendU64(nil, 0x0102030405060708), []byte{8, 7, 6, 5, 4, 3, 2, 1}},
		{cursor.AppendUint(nil, 0), []byte{0}},
		{cursor.AppendUint(nil, 127), []byte{127}},
		{cursor.AppendUint(nil, 128), []byte{128, 1}},
		{cursor.AppendUint(nil, 300), []byte{0xac, 2}},
		{cursor.AppendUint(nil, 16383), []byte{255, 127}},
		{cursor.AppendUint(nil, 16384), []byte{128, 128, 1}},
		{cursor.AppendUint(nil, math.MaxUint64), []byte{255, 255, 255, 255, 255, 255, 255, 255, 255, 1}},
		{cursor.AppendU16([]byte{9}, math.MaxUint16), []byte{9, 255, 255}},
		{cursor.AppendUint([]byte{9, 8}, 5), []byte{9, 8, 5}},
	} {
		if !bytes.Equal(c.got, c.want) {
			t.Errorf("% x, wanted % x", c.got, c.want)
		}
	}
}

func TestAppendEdges(t *testing.T) {
	for _, n := range edges() {
		got, want := appends(n)
		for i := range got {
			if !bytes.Equal(got[i], want[i]) {
				t.Errorf("call %d of %d: % x, wanted % x", i, n, got[i], want[i])
			}
		}
	}
}

func TestAppendHasMemoryOfItsOwn(t *testing.T) {
	for i, call := range []func([]byte) []byte{
		func(b []byte) []byte { return cursor.AppendU16(b, 0) },
		func(b []byte) []byte { return cursor.AppendU32(b, 0) },
		func(b []byte) []byte { return cursor.AppendU64(b, 0) },
		func(b []byte) []byte { return cursor.AppendUint(b, 0) },
	} {
		room := bytes.Repeat([]byte{7}, 32)
		told := call(room[:3])
		if !bytes.Equal(told[:4], []byte{7, 7, 7, 0}) {
			t.Errorf("call %d: % x", i, told)
		}
		for j := range told {
			told[j] = 1
		}
		if !bytes.Equal(room, bytes.Repeat([]byte{7}, 32)) {
			t.Errorf("call %d: b did not stay: % x", i, room)
		}
	}
}

// P1.2

func TestReadsWhatIsWritten(t *testing.T) {
	for _, n := range edges() {
		b := cursor.AppendU16([]byte{byte(n)}, uint16(n))
		b = cursor.AppendUint(cursor.AppendU32(b, uint32(n)), n)
		b = append(cursor.AppendU64(b, n), "ab"...)
		r := cursor.New(b)
		if x := r.U8(); x != uint8(n) || r.At() != 1 {
			t.Errorf("U8 of %d: %d, at %d", n, x, r.At())
		}
		if x := r.U16(); x != uint16(n) || r.At() != 3 {
			t.Errorf("U16 of %d: %d, at %d", n, x, r.At())
		}
		if x := r.U32(); x != uint32(n) || r.At() != 7 {
			t.Errorf("U32 of %d: %d, at %d", n, x, r.At())
		}
		if x := r.Uint(); x != n || r.At() != len(b)-10 {
			t.Errorf("Uint of %d: %d, at %d", n, x, r.At())
		}
		if x := r.U64(); x != n || r.Left() != 2 {
			t.Errorf("U64 of %d: %d, %d left", n, x, r.Left())
		}
		if x := r.Bytes(2); string(x) != "ab" || r.Left() != 0 || r.At() != len(b) || r.Bad() {
			t.Errorf("Bytes behind %d: %q, %d left", n, x, r.Left())
		}
	}
}

func TestReadExample(t *testing.T) {
	r := cursor.New([]byte{1, 2, 3})
	if a, b := r.U16(), r.U8(); a != 513 || b != 3 || r.Bad() || r.Left() != 0 || r.At() != 3 {
		t.Errorf("%d, %d", a, b)
	}
}

// readers are all that a reader is asked for that takes bytes, Bytes by so many; each tells whether it had something.
func readers(n int) map[string]func(*cursor.Reader) bool {
	return map[string]func(*cursor.Reader) bool{
		"U8":    func(r *cursor.Reader) bool { return r.U8() != 0 },
		"U16":   func(r *cursor.Reader) bool { return r.U16() != 0 },
		"U32":   func(r *cursor.Reader) bool { return r.U32() != 0 },
		"U64":   func(r *cursor.Reader) bool { return r.U64() != 0 },
		"Uint":  func(r *cursor.Reader) bool { return r.Uint() != 0 },
		"Bytes": func(r *cursor.Reader) bool { return len(r.Bytes(n)) > 0 },
	}
}

func TestTooFewBytes(t *testing.T) {
	need := map[string]int{"U8": 1, "U16": 2, "U32": 4, "U64": 8, "Uint": 3, "Bytes": 5}
	b := []byte{129, 129, 1, 1, 1, 1, 1, 1, 1}
	for name, ask := range readers(need["Bytes"]) {
		for n := range need[name] + 2 {
			r := cursor.New(append([]byte{9}, b[:n]...))
			r.U8()
			had := ask(r)
			if n >= need[name] {
				if !had || r.Bad() || r.At() != 1+need[name] || r.Left() != n-need[name] {
					t.Errorf("%s of %d bytes: had %t, bad %t, at %d, %d left", name, n, had, r.Bad(), r.At(), r.Left())
				}
			} else if had || !r.Bad() || r.At() != 1 || r.Left() != 0 {
				t.Errorf("%s of %d bytes: had %t, bad %t, at %d, %d left", name, n, had, r.Bad(), r.At(), r.Left())
			}
		}
	}
}

func TestShortNumberInOneForm(t *testing.T) {
	nines := bytes.Repeat([]byte{255}, 9)
	for _, b := range [][]byte{
		{}, {128}, {255}, {128, 128},
		{128, 0}, {255, 0}, {128, 128, 0}, {129, 128, 0},
		append(bytes.Repeat([]byte{128}, 8), 0), append(bytes.Repeat([]byte{128}, 9), 0),
		append(bytes.Clone(nines), 0), append(bytes.Clone(nines), 2), append(bytes.Clone(nines), 3),
		append(bytes.Clone(nines), 127), append(bytes.Clone(nines), 128), append(bytes.Clone(nines), 129),
		append(bytes.Clone(nines), 129, 0), append(bytes.Clone(nines), 129, 1),
		bytes.Repeat([]byte{128}, 1000),
	} {
		r := cursor.New(append([]byte{5}, b...))
		if first, n := r.U8(), r.Uint(); first != 5 || n != 0 || !r.Bad() || r.At() != 1 || r.Left() != 0 {
			t.Errorf("% x: %d, bad %t, at %d, %d left", b, n, r.Bad(), r.At(), r.Left())
		}
	}
}

// What is read as a short number is what is written as it: of all rows of up to three bytes, and of those with edges behind them.
func TestShortNumberIsWhatIsWritten(t *testing.T) {
	tails := [][]byte{{}, {0}, {1}, {127}, {128}, {255}, {128, 0}, {128, 1}}
	for n := range 1 << 16 {
		for _, tail := range tails {
			b := append([]byte{byte(n), byte(n >> 8)}, tail...)
			r := cursor.New(b)
			x := r.Uint()
			if r.Bad() {
				want, has := binary.Uvarint(b)
				if x != 0 || has > 0 && len(binary.AppendUvarint(nil, want)) == has {
					t.Fatalf("% x: refused, %d", b, x)
				}
			} else if w := cursor.AppendUint(nil, x); !bytes.HasPrefix(b, w) || r.At() != len(w) {
				t.Fatalf("% x: %d, at %d", b, x, r.At())
			}
		}
	}
}

func TestBytes(t *testing.T) {
	for _, c := range []struct {
		n    int
		want string
		bad  bool
	}{
		{0, "", false}, {1, "b", false}, {3, "bcd", false},
		{4, "", true}, {-1, "", true}, {math.MaxInt, "", true}, {math.MinInt, "", true}, {math.MaxInt - 1, "", true},
	} {
		r := cursor.New([]byte("abcd"))
		r.U8()
		x := r.Bytes(c.n)
		if string(x) != c.want || r.Bad() != c.bad || r.At() != 1+len(c.want) {
			t.Errorf("Bytes(%d): %q, bad %t, at %d", c.n, x, r.Bad(), r.At())
		}
	}
	if r := cursor.New(nil); len(r.Bytes(0)) != 0 || r.Bad() {
		t.Error("no bytes of none are there")
	}
}

func TestReaderHasACopy(t *testing.T) {
	b := []byte{1, 2, 3, 4}
	r := cursor.New(b)
	b[0], b[1] = 9, 9
	x := r.Bytes(2)
	if !bytes.Equal(x, []byte{1, 2}) {
		t.Errorf("a change of what was handed in is seen: % x", x)
	}
	x = append(x, 8, 8)
	if y := r.Bytes(2); !bytes.Equal(y, []byte{3, 4}) || !bytes.Equal(b, []byte{9, 9, 3, 4}) {
		t.Errorf("a change of what was told is seen: % x, % x", y, b)
	}
	seen := *cursor.New([]byte{1, 2})
	again := seen
	seen.Bytes(1)[0] = 7
	if n := again.U8(); n != 1 {
		t.Errorf("a change of what was told is read: %d", n)
	}
}

// P1.3

func TestLeftAndAt(t *testing.T) {
	r := cursor.New(make([]byte, 20))
	if r.Left() != 20 || r.At() != 0 || r.Bad() {
		t.Error("a new one")
	}
	for i, ask := range []func(){
		func() { r.U8() }, func() { r.U16() }, func() { r.U32() }, func() { r.U64() }, func() { r.Uint() }, func() { r.Bytes(4) },
	} {
		ask()
		if at := []int{1, 3, 7, 15, 16, 20}[i]; r.At() != at || r.Left() != 20-at || r.Bad() {
			t.Errorf("behind call %d: at %d, %d left", i, r.At(), r.Left())
		}
	}
}

func TestBadStaysBad(t *testing.T) {
	for spoiled, spoil := range readers(-1) {
		for name, ask := range readers(0) {
			r := cursor.New([]byte{1, 255})
			r.U8()
			if spoiled == "U8" {
				r.U16() // two bytes are not left, though one is
			} else {
				spoil(r)
			}
			if !r.Bad() || r.At() != 1 || r.Left() != 0 {
				t.Fatalf("%s: bad %t, at %d, %d left", spoiled, r.Bad(), r.At(), r.Left())
			}
			if ask(r) || r.Bytes(1) != nil || !r.Bad() || r.At() != 1 || r.Left() != 0 {
				t.Errorf("%s, bad by %s: bad %t, at %d, %d left", name, spoiled, r.Bad(), r.At(), r.Left())
			}
		}
	}
}

func TestReaderThatIsNotThere(t *testing.T) {
	var r *cursor.Reader
	for n := -1; n <= 1; n++ {
		for name, ask := range readers(n) {
			if ask(r) || !r.Bad() || r.At() != 0 || r.Left() != 0 {
				t.Errorf("%s: bad %t, at %d, %d left", name, r.Bad(), r.At(), r.Left())
			}
		}
	}
}

// A reader that was not made has no bytes, as a new one of none.
func TestReaderOfNoBytes(t *testing.T) {
	for name, ask := range readers(1) {
		for i, r := range []*cursor.Reader{new(cursor.Reader), cursor.New(nil), cursor.New([]byte{})} {
			if r.Bad() || r.At() != 0 || r.Left() != 0 {
				t.Errorf("%d: bad %t, at %d, %d left", i, r.Bad(), r.At(), r.Left())
			}
			if ask(r) || !r.Bad() || r.At() != 0 || r.Left() != 0 {
				t.Errorf("%s, %d: bad %t, at %d, %d left", name, i, r.Bad(), r.At(), r.Left())
			}
		}
	}
}
