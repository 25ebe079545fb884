package crc_test

import (
	"bytes"
	"encoding/binary"
	"hash/crc32"
	"math"
	"testing"

	"isinglass/api"
	"isinglass/crc"
)

// contents are bytes to be framed: none, single ones, rows about the edges of four bytes and of a byte's worth, and ones that look like frames.
func contents() [][]byte {
	l := [][]byte{{}, {0}, {255}, []byte("123456789"), make([]byte, 8), bytes.Repeat([]byte{255}, 8), {1, 0, 0, 0, 7, 1, 2, 3, 4}}
	for _, n := range []int{2, 3, 4, 5, 7, 8, 9, 15, 255, 256, 257, 1000} {
		l = append(l, row(n))
	}
	return l
}

// row is n bytes by a short rule that comes by all of them.
func row(n int) []byte {
	b := make([]byte, n)
	for i := range b {
		b[i] = byte((uint64(i)*0x9e3779b97f4a7c15 + 0x7f4a7c15) >> 51)
	}
	return b
}

// framed is b framed by the library's account.
func framed(b []byte) []byte {
	f := binary.LittleEndian.AppendUint32(nil, uint32(len(b)))
	return binary.LittleEndian.AppendUint32(append(f, b...), crc32.ChecksumIEEE(b))
}

// shiftedSum is the sum as the chapter words it, bit by bit.
func shiftedSum(b []byte) uint32 {
	n := uint32(math.MaxUint32)
	for _, x := range b {
		n ^= uint32(x)
		for range 8 {
			if n%2 == 1 {
				n = n/2 ^ 0xedb88320
			} else {
				n /= 2
			}
		}
	}
	return n ^ math.MaxUint32
}

// unframed is what Unframe is to tell, by the library's account: the chapter's errors in their order.
func unframed(b []byte, at int) (x []byte, next int, e api.Errno) {
	if at < 0 || at > len(b) {
		return nil, 0, api.ErrArg
	}
	if len(b)-at < 4 {
		return nil, 0, api.ErrShort
	}
	size := uint64(binary.LittleEndian.Uint32(b[at:]))
	if size > 1<<30 {
		return nil, 0, api.ErrLong
	}
	if uint64(len(b)-at) < 4+size+4 {
		return nil, 0, api.ErrShort
	}
	x = b[at+4 : at+4+int(size)]
	next = at + 4 + int(size) + 4
	if binary.LittleEndian.Uint32(b[next-4:]) != crc32.ChecksumIEEE(x) {
		return nil, 0, api.ErrSum
	}
	return x, next, api.OK
}

// holds asks Unframe for what stands in b from at on, and holds it against what was wanted.
func holds(t *testing.T, b []byte, at int, want []byte, wantNext int, wantErr api.Errno) {
	t.Helper()
	x, next, e := crc.Unframe(b, at)
	if !bytes.Equal(x, want) || next != wantNext || e != wantErr {
		t.Errorf("Unframe(% x, %d): % x, %d, %d, wanted % x, %d, %d", b, at, x, next, e, want, wantNext, wantErr)
	}
	if e != api.OK && x != nil {
		t.Errorf("Unframe(% x, %d): a list beside error %d", b, at, e)
	}
}

// P3.1

func TestSumExamples(t *testing.T) {
	for _, c := range []struct {
		b    []byte
		want uint32
	}{
		{nil, 0}, {[]byte{}, 0}, {[]byte("123456789"), 0xcbf43926},
		{[]byte{0}, 0xd202ef8d}, {[]byte{255}, 0xff000000}, {bytes.Repeat([]byte{255}, 4), 0xffffffff},
		{[]byte("a"), 0xe8b7be43}, {[]byte("abc"), 0x352441c2}, {make([]byte, 32), 0x190a55ad},
	} {
		if s := crc.Sum(c.b); s != c.want {
			t.Errorf("Sum(% x): %08x, wanted %08x", c.b, s, c.want)
		}
	}
}

func TestSumOfAllPairs(t *testing.T) {
	for n := range 1 << 16 {
		pair := []byte{byte(n), byte(n >> 8)}
		for _, b := range [][]byte{pair[:1], pair} {
			if s := crc.Sum(b); s != shiftedSum(b) || s != crc32.ChecksumIEEE(b) {
				t.Fatalf("Sum(% x): %08x, wanted %08x", b, s, shiftedSum(b))
			}
		}
	}
}

func TestSumOfRows(t *testing.T) {
	for n := range 600 {
		for _, b := range [][]byte{row(n), make([]byte, n), bytes.Repeat([]byte{255}, n)} {
			if s := crc.Sum(b); s != shiftedSum(b) || s != crc32.ChecksumIEEE(b) {
				t.Errorf("Sum of %d bytes: %08x, wanted %08x", n, s, shiftedSum(b))
			}
		}
	}
	long := row(1 << 20)
	if s := crc.Sum(long); s != crc32.ChecksumIEEE(long) {
		t.Errorf("Sum of many bytes: %08x", s)
	}
}

func TestFrameExamples(t *testing.T) {
	for _, c := range []struct{ b, want []byte }{
		{nil, make([]byte, 8)}, {[]byte{}, make([]byte, 8)},
		{[]byte{0}, []byte{1, 0, 0, 0, 0, 0x8d, 0xef, 2, 0xd2}},
		{[]byte("123456789"), []byte("\x09\x00\x00\x00123456789\x26\x39\xf4\xcb")},
	} {
		if f := crc.Frame(c.b); !bytes.Equal(f, c.want) {
			t.Errorf("Frame(% x): % x, wanted % x", c.b, f, c.want)
		}
	}
}

func TestFrames(t *testing.T) {
	for _, b := range append(contents(), row(1<<16-1), row(1<<16), row(1<<20)) {
		if f := crc.Frame(b); !bytes.Equal(f, framed(b)) {
			t.Errorf("Frame of %d bytes is not they, framed", len(b))
		}
	}
}

func TestFrameOfMost(t *testing.T) {
	b := make([]byte, api.MaxFrame+1)
	if f := crc.Frame(b); f != nil {
		t.Errorf("of one byte too many: %d bytes", len(f))
	}
	f := crc.Frame(b[:api.MaxFrame])
	if len(f) != api.MaxFrame+8 {
		t.Fatalf("of as many bytes as may be: %d bytes", len(f))
	}
	sum := binary.LittleEndian.AppendUint32(nil, crc32.ChecksumIEEE(b[:api.MaxFrame]))
	if !bytes.Equal(f[:4], []byte{0, 0, 0, 0x40}) || !bytes.Equal(f[len(f)-4:], sum) {
		t.Errorf("of as many bytes as may be: % x, and % x at the end", f[:4], f[len(f)-4:])
	}
}

func TestFrameHasMemoryOfItsOwn(t *testing.T) {
	room := bytes.Repeat([]byte{7}, 64)
	for n := range 9 {
		f := crc.Frame(room[:n])
		for i := range f {
			f[i] = 1
		}
		f = append(f, 2, 2, 2)
		if !bytes.Equal(room, bytes.Repeat([]byte{7}, 64)) {
			t.Fatalf("a frame of %d bytes: what was handed in did not stay: % x", n, room)
		}
	}
	b := []byte{1, 2, 3}
	f := crc.Frame(b)
	b[0] = 9
	if !bytes.Equal(f, framed([]byte{1, 2, 3})) {
		t.Errorf("a change of what was handed in is seen: % x", f)
	}
	if crc.Sum(b); !bytes.Equal(b, []byte{9, 2, 3}) {
		t.Errorf("what was summed up did not stay: % x", b)
	}
}

// P3.2

func TestUnframes(t *testing.T) {
	for _, b := range contents() {
		for _, ahead := range [][]byte{nil, {0}, {255, 255}, row(9)} {
			for _, behind := range [][]byte{nil, {0}, {255, 255, 255, 255, 255}, row(9)} {
				all := bytes.Join([][]byte{ahead, framed(b), behind}, nil)
				holds(t, all, len(ahead), b, len(all)-len(behind), api.OK)
			}
		}
	}
}

// What is framed is had again, one behind the other, to the end of the bytes.
func TestUnframesOneBehindTheOther(t *testing.T) {
	var all []byte
	for _, b := range contents() {
		all = append(all, crc.Frame(b)...)
	}
	at := 0
	for i, b := range contents() {
		x, next, e := crc.Unframe(all, at)
		if !bytes.Equal(x, b) || next != at+len(b)+8 || e != api.OK {
			t.Fatalf("frame %d, at %d: % x, %d, %d", i, at, x, next, e)
		}
		at = next
	}
	holds(t, all, at, nil, 0, api.ErrShort)
	holds(t, all, at+1, nil, 0, api.ErrArg)
}

func TestUnframeExamples(t *testing.T) {
	nothing := make([]byte, 8)
	holds(t, nothing, 0, nil, 8, api.OK)
	holds(t, nothing, 1, nil, 0, api.ErrShort)
	holds(t, nothing, 8, nil, 0, api.ErrShort)
	holds(t, nothing, 9, nil, 0, api.ErrArg)
	holds(t, make([]byte, 17), 9, nil, 17, api.OK)
	nines := []byte("\x09\x00\x00\x00123456789\x26\x39\xf4\xcb")
	holds(t, nines, 0, []byte("123456789"), 17, api.OK)
	nines[3] = 0x40
	holds(t, nines, 0, nil, 0, api.ErrLong)
}

func TestUnframeAtNoPlace(t *testing.T) {
	// Whatever stands there, also bytes that another error would be told of.
	for _, b := range [][]byte{nil, {}, {1}, framed(nil), framed(row(9)), bytes.Repeat([]byte{255}, 20), {1, 0, 0, 0, 1, 1, 1, 1, 1}} {
		for _, at := range []int{-1, -4, -8, len(b) + 1, len(b) + 8, math.MaxInt, math.MaxInt - 8, math.MinInt, math.MinInt + 8, 1 << 32, -1 << 32} {
			holds(t, b, at, nil, 0, api.ErrArg)
		}
		holds(t, b, len(b), nil, 0, api.ErrShort)
	}
}

func TestUnframeOfCutBytes(t *testing.T) {
	for _, b := range contents() {
		f := framed(b)
		ahead := row(5)
		for n := range f {
			holds(t, f[:n], 0, nil, 0, api.ErrShort)
			holds(t, append(ahead[:5:5], f[:n]...), 5, nil, 0, api.ErrShort)
		}
	}
}

func TestUnframeOfAnotherSize(t *testing.T) {
	for _, size := range []uint32{0, 1, 2, 8, 9, 10, 11, 255, 256, 1 << 16, 1<<30 - 1, 1 << 30} {
		for _, left := range []int{0, 1, 4, 12} {
			if uint32(left) < size+4 {
				b := append(binary.LittleEndian.AppendUint32(nil, size), make([]byte, left)...)
				holds(t, b, 0, nil, 0, api.ErrShort)
				holds(t, append([]byte{1}, b...), 1, nil, 0, api.ErrShort)
			}
		}
	}
	// A size that is too great is told ahead of bytes that end too early, but not where it ends too early itself.
	for _, size := range []uint32{1<<30 + 1, 1<<30 + 8, 1<<31 - 1, 1 << 31, 1<<31 + 1, math.MaxUint32 - 8, math.MaxUint32 - 3, math.MaxUint32} {
		for _, left := range []int{0, 1, 3, 4, 8, 100} {
			b := append(binary.LittleEndian.AppendUint32(nil, size), make([]byte, left)...)
			holds(t, b, 0, nil, 0, api.ErrLong)
			holds(t, append([]byte{1}, b...), 1, nil, 0, api.ErrLong)
		}
	}
	for n := range 4 {
		holds(t, bytes.Repeat([]byte{255}, n), 0, nil, 0, api.ErrShort)
		holds(t, bytes.Repeat([]byte{255}, 9), 9-n, nil, 0, api.ErrShort)
	}
}

func TestUnframeOfAChangedBit(t *testing.T) {
	for _, b := range contents() {
		f := append(framed(b), row(3)...)
		for k := 8 * 4; k < 8*(len(b)+8); k++ {
			f[k/8] ^= 1 << (k % 8)
			holds(t, f, 0, nil, 0, api.ErrSum)
			f[k/8] ^= 1 << (k % 8)
		}
		holds(t, f, 0, b, len(b)+8, api.OK)
	}
}

// Whatever bytes there are, and wherever it is asked: what is told is what the chapter's words ask for.
func TestUnframeOfAnyBytes(t *testing.T) {
	some := [][]byte{{0, 0, 0, 0}, {1, 0, 0, 0}, {2, 0, 0, 0}, {4, 0, 0, 0}, {0, 0, 0, 0x40}, {1, 0, 0, 0x40}, {0x8d, 0xef, 2, 0xd2}, {0}, framed([]byte{0})}
	for _, b := range some {
		for _, c := range some {
			for _, d := range some {
				for _, f := range some {
					all := bytes.Join([][]byte{b, c, d, f}, nil)
					for at := -1; at <= len(all)+1; at++ {
						want, next, e := unframed(all, at)
						holds(t, all, at, want, next, e)
					}
				}
			}
		}
	}
}

func TestUnframeHasMemoryOfItsOwn(t *testing.T) {
	for _, b := range contents() {
		all := append(append(row(3), framed(b)...), row(3)...)
		room := bytes.Clone(all)
		x, next, _ := crc.Unframe(room, 3)
		clear(x)
		clear(append(x, 1, 2, 3, 4, 5)[:cap(x)])
		if !bytes.Equal(room, all) {
			t.Fatalf("a frame of %d bytes: a change of what was told is seen: % x", len(b), room)
		}
		x, _, _ = crc.Unframe(room[:next], 3)
		clear(room)
		if !bytes.Equal(x, b) {
			t.Errorf("a frame of %d bytes: a change of what was handed in is seen: % x", len(b), x)
		}
	}
	spoiled := framed(row(9))
	spoiled[6]++
	room := bytes.Clone(spoiled)
	if crc.Unframe(room, 0); !bytes.Equal(room, spoiled) {
		t.Errorf("what was refused did not stay: % x", room)
	}
}
