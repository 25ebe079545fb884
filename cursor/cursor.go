// Package cursor is layer 1: see shared/doc/01-cursor.md.
package cursor

import (
	"math/bits"
	"slices"
)

// most is how many bytes a short number has at most.
const most = 10

// short stands for how many bytes a number has, where its bytes themselves tell that.
const short = 0

// AppendU16 is b, and behind it n in 2 bytes, in memory of its own.
func AppendU16(b []byte, n uint16) []byte { return appendWhole(b, uint64(n), 2) }

// AppendU32 is b, and behind it n in 4 bytes, in memory of its own.
func AppendU32(b []byte, n uint32) []byte { return appendWhole(b, uint64(n), 4) }

// AppendU64 is b, and behind it n in 8 bytes, in memory of its own.
func AppendU64(b []byte, n uint64) []byte { return appendWhole(b, n, 8) }

// AppendUint is b, and behind it n as a short number, in memory of its own.
func AppendUint(b []byte, n uint64) []byte {
	told := copyWithRoom(b, shortSize(n))
	for n >= 128 {
		told = append(told, byte(n)|128)
		n >>= 7
	}
	return append(told, byte(n))
}

func appendWhole(b []byte, n uint64, size int) []byte {
	told := copyWithRoom(b, size)
	for range size {
		told = append(told, byte(n))
		n >>= 8
	}
	return told
}

// copyWithRoom is a copy even where b has room behind it: that room may be another's.
func copyWithRoom(b []byte, more int) []byte {
	return append(make([]byte, 0, len(b)+more), b...)
}

func shortSize(n uint64) int {
	return max(1, (bits.Len64(n)+6)/7)
}

// Reader reads numbers and bytes, one behind the other.
type Reader struct {
	b   []byte
	at  int
	bad bool
}

// New is a reader of a copy of b.
func New(b []byte) *Reader { return &Reader{b: slices.Clone(b)} }

// U8 reads a number of 1 byte.
func (r *Reader) U8() uint8 { return uint8(r.number(1)) }

// U16 reads a number of 2 bytes.
func (r *Reader) U16() uint16 { return uint16(r.number(2)) }

// U32 reads a number of 4 bytes.
func (r *Reader) U32() uint32 { return uint32(r.number(4)) }

// U64 reads a number of 8 bytes.
func (r *Reader) U64() uint64 { return r.number(8) }

// Uint reads a short number.
func (r *Reader) Uint() uint64 { return r.number(short) }

// number is all the readers of numbers: size is how many bytes, or short.
func (r *Reader) number(size int) uint64 {
	if r.Bad() {
		return 0
	}
	looks := [...]func(int) (n uint64, has int){r.lookShort, r.lookWhole}
	n, has := looks[min(size, 1)](size)
	r.bad = has == 0
	r.at += has
	return n
}

// lookWhole is the number of size bytes at the place, and how many bytes it has: none, if it does not stand there.
func (r *Reader) lookWhole(size int) (n uint64, has int) {
	if r.Left() < size {
		return 0, 0
	}
	for i, x := range r.b[r.at : r.at+size] {
		n |= uint64(x) << (8 * i)
	}
	return n, size
}

// lookShort is the short number at the place, and how many bytes it has: none, if it does not stand there.
func (r *Reader) lookShort(int) (n uint64, has int) {
	for i, x := range r.b[r.at:][:min(r.Left(), most)] {
		n |= uint64(x&127) << (7 * i)
		if x < 128 {
			has = i + 1
			break
		}
	}
	// A form that is not of n's own size has too few bytes, or ends in nought; a tenth byte has but one bit of the 64.
	if has != shortSize(n) || has == most && r.b[r.at+most-1] > 1 {
		return 0, 0
	}
	return n, has
}

// Bytes reads the next n bytes, into memory of their own.
func (r *Reader) Bytes(n int) []byte {
	if r.Bad() {
		return nil
	}
	if n < 0 || n > r.Left() {
		r.bad = true
		return nil
	}
	from := r.at
	r.at += n
	return slices.Clone(r.b[from:r.at])
}

// Left is how many bytes are left behind the place: 0, if the reader is bad.
func (r *Reader) Left() int {
	if r.Bad() {
		return 0
	}
	return len(r.b) - r.at
}

// At is the place.
func (r *Reader) At() int {
	if r == nil {
		return 0
	}
	return r.at
}

// Bad is whether the reader is bad, as one that is not there is.
func (r *Reader) Bad() bool { return r == nil || r.bad }
