package pack_test

import (
	"bytes"
	"math"
	"math/big"
	"slices"
	"testing"

	"isinglass/api"
	"isinglass/pack"
)

// noWidths are those that there are not, and noCounts those that may not be.
func noWidths() []int {
	return []int{0, 65, -1, -64, 66, 128, 256, 1 << 32, 1<<32 + 8, math.MaxInt, math.MinInt}
}

func noCounts() []int {
	return []int{-1, -8, 1<<40 + 1, 1<<40 + 8, 1 << 58, 1 << 61, math.MaxInt, math.MinInt}
}

// numbers are n of a width, among them 0 and the greatest one: from a short rule that goes through all their bits.
func numbers(n, width int) []uint64 {
	l := make([]uint64, n)
	for i := range l {
		l[i] = (uint64(i)*0x9e3779b97f4a7c15 + 0x7f4a7c15) >> (64 - width)
		if i%5 == 2 {
			l[i] = math.MaxUint64 >> (64 - width)
		}
		if i%7 == 3 {
			l[i] = 0
		}
	}
	return l
}

// asOne is the bytes of packed numbers by another account: all of them as one great number, its lowest byte first.
func asOne(l []uint64, width int) []byte {
	all := new(big.Int)
	for i, n := range l {
		x := new(big.Int).SetUint64(n)
		all.Or(all, x.Lsh(x, uint(i*width)))
	}
	b := all.FillBytes(make([]byte, (len(l)*width+7)/8))
	slices.Reverse(b)
	return b
}

// each goes over all widths, and over counts at which the last number ends at each of a byte's bits.
func each(call func(l []uint64, width int, b []byte)) {
	for width := 1; width <= 64; width++ {
		for n := range 20 {
			l := numbers(n, width)
			call(l, width, asOne(l, width))
		}
	}
}

// P2.1

func TestWidth(t *testing.T) {
	for _, c := range []struct {
		most uint64
		want int
	}{
		{0, 1}, {1, 1}, {2, 2}, {3, 2}, {4, 3}, {255, 8}, {256, 9},
		{math.MaxUint32, 32}, {1 << 32, 33}, {math.MaxInt64, 63}, {1 << 63, 64}, {math.MaxUint64, 64},
	} {
		if w := pack.Width(c.most); w != c.want {
			t.Errorf("Width(%d): %d, wanted %d", c.most, w, c.want)
		}
	}
	for w := 2; w <= 64; w++ {
		first, last := uint64(1)<<(w-1), uint64(math.MaxUint64)>>(64-w)
		if pack.Width(first) != w || pack.Width(last) != w || pack.Width(first-1) != w-1 {
			t.Errorf("the edges of width %d: %d, %d, %d", w, pack.Width(first), pack.Width(last), pack.Width(first-1))
		}
	}
}

func TestSize(t *testing.T) {
	for _, c := range []struct{ n, width, want int }{
		{0, 1, 0}, {0, 64, 0}, {1, 1, 1}, {8, 1, 1}, {9, 1, 2}, {16, 1, 2}, {17, 1, 3},
		{2, 3, 1}, {3, 3, 2}, {8, 3, 3}, {1, 7, 1}, {1, 8, 1}, {1, 9, 2}, {8, 63, 63}, {7, 63, 56}, {1, 64, 8}, {5, 64, 40},
		{1<<40 - 1, 1, 1 << 37}, {1 << 40, 1, 1 << 37}, {1 << 40, 3, 3 << 37}, {1<<40 - 1, 64, 1<<43 - 8}, {1 << 40, 64, 1 << 43},
	} {
		if s := pack.Size(c.n, c.width); s != c.want {
			t.Errorf("Size(%d, %d): %d, wanted %d", c.n, c.width, s, c.want)
		}
	}
	for width := 1; width <= 64; width++ {
		for n := range 100 {
			if s := pack.Size(n, width); 8*s < n*width || 8*s >= n*width+8 {
				t.Errorf("Size(%d, %d): %d", n, width, s)
			}
		}
	}
}

func TestSizeOfNone(t *testing.T) {
	for _, width := range noWidths() {
		for _, n := range append(noCounts(), 0, 1, 8, 1000, 1<<40) {
			if s := pack.Size(n, width); s != 0 {
				t.Errorf("Size(%d, %d): %d", n, width, s)
			}
		}
	}
	for _, n := range noCounts() {
		for width := 1; width <= 64; width++ {
			if s := pack.Size(n, width); s != 0 {
				t.Errorf("Size(%d, %d): %d", n, width, s)
			}
		}
	}
}

// P2.2

func TestPackExamples(t *testing.T) {
	for _, c := range []struct {
		l     []uint64
		width int
		want  []byte
	}{
		{[]uint64{1, 2, 3}, 3, []byte{0xd1, 0}},
		{nil, 1, nil}, {[]uint64{}, 64, nil},
		{[]uint64{0}, 1, []byte{0}}, {[]uint64{1}, 1, []byte{1}},
		{[]uint64{1, 0, 1, 1, 0, 0, 0, 1, 1}, 1, []byte{0x8d, 1}},
		{[]uint64{7, 7}, 3, []byte{0x3f}},
		{[]uint64{255, 1, 0}, 8, []byte{255, 1, 0}},
		{[]uint64{0x123, 0x456}, 12, []byte{0x23, 0x61, 0x45}},
		{[]uint64{0x102030405060708}, 64, []byte{8, 7, 6, 5, 4, 3, 2, 1}},
		{[]uint64{math.MaxUint64, 0, 1}, 64, []byte{255, 255, 255, 255, 255, 255, 255, 255, 0, 0, 0, 0, 0, 0, 0, 0, 1, 0, 0, 0, 0, 0, 0, 0}},
	} {
		b, err := pack.Pack(c.l, c.width)
		if err != api.OK || !bytes.Equal(b, c.want) {
			t.Errorf("Pack(%d, %d): % x, %d, wanted % x", c.l, c.width, b, err, c.want)
		}
		if l, err := pack.Unpack(c.want, len(c.l), c.width); err != api.OK || !slices.Equal(l, c.l) {
			t.Errorf("Unpack(% x, %d, %d): %d, %d", c.want, len(c.l), c.width, l, err)
		}
	}
}

func TestPacksAndUnpacks(t *testing.T) {
	each(func(l []uint64, width int, want []byte) {
		b, err := pack.Pack(l, width)
		if err != api.OK || !bytes.Equal(b, want) || len(b) != pack.Size(len(l), width) {
			t.Errorf("Pack(%d, %d): % x, %d, wanted % x", l, width, b, err, want)
		}
		again, err := pack.Unpack(want, len(l), width)
		if err != api.OK || !slices.Equal(again, l) {
			t.Errorf("Unpack(% x, %d, %d): %d, %d, wanted %d", want, len(l), width, again, err, l)
		}
	})
}

func TestPackManyNumbers(t *testing.T) {
	for _, width := range []int{1, 5, 17, 64} {
		l := numbers(100000, width)
		b, err := pack.Pack(l, width)
		if err != api.OK {
			t.Fatalf("width %d: %d", width, err)
		}
		if again, err := pack.Unpack(b, len(l), width); err != api.OK || !slices.Equal(again, l) {
			t.Errorf("width %d: not what was packed, %d", width, err)
		}
	}
}

func TestPackRefuses(t *testing.T) {
	refused := func(l []uint64, width int) {
		t.Helper()
		if b, err := pack.Pack(l, width); b != nil || err != api.ErrArg {
			t.Errorf("Pack(%d, %d): % x, %d", l, width, b, err)
		}
	}
	for _, width := range noWidths() {
		refused(nil, width)
		refused([]uint64{0}, width)
		refused([]uint64{math.MaxUint64}, width)
	}
	for width := 1; width < 64; width++ {
		for _, n := range []uint64{1 << width, 1<<width + 1, 1 << 63, math.MaxUint64} {
			refused([]uint64{n}, width)
			refused([]uint64{n, 0, 0}, width)
			refused([]uint64{0, n, 0}, width)
			refused([]uint64{0, 0, n}, width)
		}
	}
}

func TestUnpackRefusesArguments(t *testing.T) {
	refused := func(b []byte, n, width int) {
		t.Helper()
		if l, err := pack.Unpack(b, n, width); l != nil || err != api.ErrArg {
			t.Errorf("Unpack of %d bytes, %d, %d: %d, %d", len(b), n, width, l, err)
		}
	}
	// No bytes would be too few of them, and ones too many or of no form: what may not be asked is told first.
	for _, b := range [][]byte{nil, {}, {0}, {255}, bytes.Repeat([]byte{255}, 100)} {
		for _, width := range noWidths() {
			for _, n := range append(noCounts(), 0, 1, 8, 1<<40) {
				refused(b, n, width)
			}
		}
		for _, n := range noCounts() {
			for width := 1; width <= 64; width++ {
				refused(b, n, width)
			}
		}
	}
}

func TestUnpackOfTooFewBytes(t *testing.T) {
	short := func(b []byte, n, width int) {
		t.Helper()
		if l, err := pack.Unpack(b, n, width); l != nil || err != api.ErrShort {
			t.Errorf("Unpack of %d bytes, %d, %d: %d, %d", len(b), n, width, l, err)
		}
	}
	each(func(l []uint64, width int, b []byte) {
		for has := range b {
			short(b[:has], len(l), width)
			short(bytes.Repeat([]byte{255}, has), len(l), width)
		}
	})
	for _, n := range []int{9, 1 << 31, 1 << 32, 1<<40 - 1, 1 << 40} {
		for _, width := range []int{1, 8, 63, 64} {
			short(nil, n, width)
			short([]byte{0}, n, width)
			short([]byte{255}, n, width)
		}
	}
}

func TestUnpackOfWrongForm(t *testing.T) {
	wrong := func(b []byte, n, width int) {
		t.Helper()
		if l, err := pack.Unpack(b, n, width); l != nil || err != api.ErrForm {
			t.Errorf("Unpack(% x, %d, %d): %d, %d", b, n, width, l, err)
		}
	}
	wrong([]byte{255}, 2, 3)
	each(func(l []uint64, width int, b []byte) {
		n := len(l)
		wrong(append(bytes.Clone(b), 0), n, width)
		wrong(append(bytes.Clone(b), 255), n, width)
		wrong(append(bytes.Clone(b), make([]byte, 9)...), n, width)
		for k := n * width; k < 8*len(b); k++ {
			more := bytes.Clone(b)
			more[k/8] |= 1 << (k % 8)
			wrong(more, n, width)
		}
	})
}

// There is one row of bytes: what is unpacked is packed again as it was.
func TestOneRowOfBytes(t *testing.T) {
	for width := 1; width <= 16; width++ {
		for n := range 18 {
			for x := range 1 << 16 {
				b := []byte{byte(x), byte(x >> 8)}
				l, err := pack.Unpack(b, n, width)
				if err != api.OK {
					continue
				}
				if again, err := pack.Pack(l, width); err != api.OK || !bytes.Equal(again, b) {
					t.Fatalf("% x, %d, %d: packed again % x, %d", b, n, width, again, err)
				}
			}
		}
	}
}

func TestMemoryOfItsOwn(t *testing.T) {
	room := []uint64{1, 2, 3, 4}
	b, _ := pack.Pack(room[:3], 64)
	l, _ := pack.Unpack(b, 3, 64)
	room[0], b[8] = 9, 9
	if l[0] != 1 || l[1] != 2 || b[0] != 1 {
		t.Errorf("a change of what was handed in is seen: %d, % x", l, b)
	}
	l[2] = 7
	l = append(l, 8)
	b = append(b, 8)
	if !slices.Equal(room, []uint64{9, 2, 3, 4}) || b[16] != 3 {
		t.Errorf("a change of what was told is seen: %d, % x", room, b)
	}
	whole := bytes.Repeat([]byte{5}, 4)
	pack.Unpack(whole[:2], 2, 8)
	pack.Get(whole[:2], 1, 8)
	if !bytes.Equal(whole, bytes.Repeat([]byte{5}, 4)) {
		t.Errorf("what was handed in did not stay: % x", whole)
	}
}

// P2.3

func TestGetsOneByOne(t *testing.T) {
	each(func(l []uint64, width int, b []byte) {
		for i, n := range l {
			if x := pack.Get(b, i, width); x != n {
				t.Errorf("Get(% x, %d, %d): %d, wanted %d", b, i, width, x, n)
			}
		}
	})
}

// Bits that b has not are 0; those that it has count, even if they are behind the last number, or its number ends behind b.
func TestGetAtTheEnd(t *testing.T) {
	full := bytes.Repeat([]byte{255}, 9)
	for has := range full {
		for width := 1; width <= 64; width++ {
			for i := range 80 {
				bits := min(max(8*has-i*width, 0), width)
				want := uint64(math.MaxUint64)
				if bits < 64 {
					want = 1<<bits - 1
				}
				if x := pack.Get(full[:has], i, width); x != want {
					t.Errorf("Get of %d bytes, %d, %d: %x, wanted %x", has, i, width, x, want)
				}
			}
		}
	}
	for _, c := range []struct {
		b        []byte
		i, width int
		want     uint64
	}{
		{[]byte{0xd1, 0}, 0, 3, 1}, {[]byte{0xd1, 0}, 1, 3, 2}, {[]byte{0xd1, 0}, 2, 3, 3}, {[]byte{0xd1, 0}, 3, 3, 0},
		{[]byte{0xd1}, 2, 3, 3}, {[]byte{0xff, 2}, 2, 3, 3}, {[]byte{0xff, 2}, 3, 3, 1},
		{[]byte{1, 2, 3}, 0, 64, 0x30201}, {[]byte{1, 2, 3}, 1, 16, 3}, {[]byte{1, 2, 3}, 2, 16, 0},
	} {
		if x := pack.Get(c.b, c.i, c.width); x != c.want {
			t.Errorf("Get(% x, %d, %d): %d, wanted %d", c.b, c.i, c.width, x, c.want)
		}
	}
}

func TestGetOfNone(t *testing.T) {
	for _, b := range [][]byte{nil, {}, {255}, bytes.Repeat([]byte{255}, 100)} {
		for _, width := range noWidths() {
			for _, i := range append(noCounts(), 0, 1, 8, 1<<40) {
				if x := pack.Get(b, i, width); x != 0 {
					t.Errorf("Get of %d bytes, %d, %d: %d", len(b), i, width, x)
				}
			}
		}
		for width := 1; width <= 64; width++ {
			for _, i := range append(noCounts(), 1<<31, 1<<32, 1<<40-1, 1<<40) {
				if x := pack.Get(b, i, width); x != 0 {
					t.Errorf("Get of %d bytes, %d, %d: %d", len(b), i, width, x)
				}
			}
		}
	}
}
