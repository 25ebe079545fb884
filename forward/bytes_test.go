package forward_test

import (
	"bytes"
	"math"
	"slices"
	"testing"

	"isinglass/api"
	"isinglass/forward"
)

// P12.2

func TestReadsWhatIsWritten(t *testing.T) {
	all(func(ids []int, many int) {
		b := of(t, ids, many).Bytes()
		x, e := forward.Read(b, len(ids), many)
		if e != api.OK {
			t.Fatalf("%d ids below %d: the error %d", len(ids), many, e)
		}
		check(t, "read again", x, ids, many)
		checkAsMet(t, "read again", b, len(ids), many)
	})
}

func TestReadOfBytesThatEndTooEarly(t *testing.T) {
	all(func(ids []int, many int) {
		b := bytesOf(ids, many)
		for end := range b {
			checkNotRead(t, "cut", b[:end], len(ids), many, api.ErrShort)
			checkAsMet(t, "cut", b[:end], len(ids), many)
		}
	})
	for n := range 9 { // whatever stands there, and whatever is handed in
		for _, x := range []byte{0, 1, 2, 255} {
			for _, rows := range []int{0, 1, -1, api.MaxRows + 1, math.MaxInt, math.MinInt} {
				for _, many := range []int{0, 1, -1, api.MaxIDs + 1, math.MaxInt, math.MinInt} {
					checkNotRead(t, "fewer than nine", bytes.Repeat([]byte{x}, n), rows, many, api.ErrShort)
				}
			}
		}
	}
	checkNotRead(t, "none", nil, 0, 0, api.ErrShort)
}

func TestReadOfBytesBehind(t *testing.T) {
	all(func(ids []int, many int) {
		for _, more := range [][]byte{{0}, {1}, {255}, make([]byte, 8), bytesOf(ids, many)} {
			b := append(bytesOf(ids, many), more...)
			checkNotRead(t, "with bytes behind", b, len(ids), many, api.ErrForm)
			checkAsMet(t, "with bytes behind", b, len(ids), many)
		}
	})
}

func TestReadOfOthersThanHandedIn(t *testing.T) {
	all(func(ids []int, many int) {
		b := bytesOf(ids, many)
		rows := len(ids)
		for _, other := range []int{rows + 1, rows - 1, rows + 8, 2*rows + 1, -rows - 1, rows + 1<<32, rows - 1<<32, rows + 1<<40, api.MaxRows, api.MaxRows + 1, math.MaxInt, math.MinInt} {
			checkNotRead(t, "other rows", b, other, many, api.ErrForm)
		}
		for _, other := range []int{many + 1, many - 1, 2*many + 1, -many - 1, many + 1<<32, many - 1<<32, many + 1<<40, api.MaxIDs + 1, math.MaxInt, math.MinInt} {
			checkNotRead(t, "other many", b, rows, other, api.ErrForm)
			checkNotRead(t, "other rows and many", b, rows+1, other, api.ErrForm)
		}
		if rows != many {
			checkNotRead(t, "each in the other's place", b, many, rows, api.ErrForm)
		}
	})
}

func TestReadOfTooManyRows(t *testing.T) {
	for _, rows := range []int{api.MaxRows + 1, api.MaxRows + 2, 1 << 25, math.MaxInt32, 1 << 31, math.MaxUint32} {
		for _, many := range []int{1, 3, 1000, api.MaxIDs} {
			b := head(uint32(rows), uint32(many), byte(width(many)))
			checkNotRead(t, "cut", b[:8], rows, many, api.ErrShort)
			checkNotRead(t, "too many rows", b, rows, many, api.ErrLong)
			checkNotRead(t, "and some ids", append(bytes.Clone(b), 1, 2, 3), rows, many, api.ErrLong)
			for _, other := range []int{0, 3, -1, rows - 1<<32, math.MaxInt, math.MinInt} {
				checkNotRead(t, "and others are handed in", b, other, many, api.ErrLong)
				checkNotRead(t, "and another many is handed in", b, rows, other-1, api.ErrLong)
			}
			b[8]++
			checkNotRead(t, "and another width", b, rows, many, api.ErrLong)
		}
		for _, many := range []uint32{0, api.MaxIDs + 1, 1 << 31, math.MaxUint32} {
			checkNotRead(t, "and many that may not be", head(uint32(rows), many, 1), rows, int(many), api.ErrLong)
		}
	}
	for _, many := range []int{1, api.MaxIDs} {
		b := head(api.MaxRows, uint32(many), byte(width(many)))
		checkNotRead(t, "as many as may be, and no ids", b, api.MaxRows, many, api.ErrShort)
		checkNotRead(t, "as many as may be, and others are handed in", b, api.MaxRows+1, many, api.ErrForm)
	}
}

func TestReadOfManyThatMayNotBe(t *testing.T) {
	for _, many := range []uint32{api.MaxIDs + 1, api.MaxIDs + 2, 1 << 25, math.MaxInt32, 1 << 31, math.MaxUint32} {
		for _, rows := range []int{0, 1, 3, api.MaxRows} {
			for _, w := range []int{1, 24, 25, width(int(many)), 255} {
				b := head(uint32(rows), many, byte(w))
				checkNotRead(t, "many that may not be, and no ids", b, rows, int(many), api.ErrForm)
				if rows > 3 {
					continue
				}
				b = append(b, make([]byte, (rows*w+7)/8)...)
				checkNotRead(t, "many that may not be", b, rows, int(many), api.ErrForm)
				checkNotRead(t, "many that may not be, and a byte behind", append(b, 0), rows, int(many), api.ErrForm)
			}
		}
	}
	for _, rows := range []int{1, 3, 8, api.MaxRows} {
		for _, w := range []byte{0, 1, 2} {
			b := head(uint32(rows), 0, w)
			checkNotRead(t, "no ids may be, and there are rows", b, rows, 0, api.ErrForm)
			checkNotRead(t, "and a byte", append(b, 0), rows, 0, api.ErrForm)
			checkNotRead(t, "and bytes", append(b, make([]byte, 100)...), rows, 0, api.ErrForm)
		}
	}
	for _, many := range []int{-1, math.MinInt, -1 << 32} {
		for _, b := range [][]byte{head(0, uint32(many&math.MaxUint32), 1), head(0, 0, 1), head(3, 3, 2)} {
			checkNotRead(t, "many of less than 0", b, 0, many, api.ErrForm)
		}
	}
}

func TestReadOfAnotherWidth(t *testing.T) {
	check := func(ids []int, many int) {
		for w := range 256 {
			if w == width(many) {
				continue
			}
			// There are no bytes, just those of the ids, too few, or too many.
			h := head(uint32(len(ids)), uint32(many), byte(w))
			for _, ids := range [][]byte{nil, tail(ids, w), tail(ids, width(many)), append(tail(ids, w), 0)} {
				b := slices.Concat(h, ids)
				checkNotRead(t, "another width", b, len(ids), many, api.ErrForm)
				checkAsMet(t, "another width", b, len(ids), many)
			}
		}
	}
	check(nil, 0)
	for _, many := range manies() {
		check(nil, many)
		check([]int{many - 1}, many)
		check(some(5, many), many)
	}
}

func TestReadOfAnIDThatMayNotBe(t *testing.T) {
	for _, many := range manies() {
		w := width(many)
		most := 1<<w - 1
		for _, id := range []int{many, many + 1, most - 1, most} {
			if id < many || id > most { // those that stand in the width, and may not be
				continue
			}
			for n := range 9 {
				ids := some(n, many)
				for i := range n + 1 {
					wrong := slices.Insert(slices.Clone(ids), i, id)
					b := append(head(uint32(n+1), uint32(many), byte(w)), tail(wrong, w)...)
					checkNotRead(t, "an id that may not be", b, n+1, many, api.ErrForm)
					checkNotRead(t, "an id that may not be, cut", b[:len(b)-1], n+1, many, api.ErrShort)
					checkNotRead(t, "an id that may not be, and a byte behind", append(b, 0), n+1, many, api.ErrForm)
				}
			}
		}
	}
	checkNotRead(t, "1 of 1", append(head(1, 1, 1), 1), 1, 1, api.ErrForm)
	checkNotRead(t, "3 of 3", append(head(3, 3, 2), 0x31), 3, 3, api.ErrForm)
}

func TestReadOfABitBehind(t *testing.T) {
	all(func(ids []int, many int) {
		b := bytesOf(ids, many)
		for k := len(ids) * width(many); k < 8*(len(b)-9); k++ {
			more := bytes.Clone(b)
			more[9+k/8] |= 1 << (k % 8)
			checkNotRead(t, "a bit behind", more, len(ids), many, api.ErrForm)
			checkNotRead(t, "a bit behind, cut", more[:len(b)-1], len(ids), many, api.ErrShort)
			checkNotRead(t, "a bit behind, and a byte", append(more, 0), len(ids), many, api.ErrForm)
		}
	})
	checkNotRead(t, "of the example", append(head(3, 3, 2), 0x61), 3, 3, api.ErrForm)
}

// Of two things that are wrong the first one is told.
func TestReadTellsWhatIsFirst(t *testing.T) {
	const over = api.MaxRows + 1
	for _, c := range []struct {
		name       string
		b          []byte
		rows, many int
		want       api.Errno
	}{
		{"too many rows, cut", head(over, 3, 2)[:8], over, 3, api.ErrShort},
		{"other rows, cut", head(3, 3, 2)[:8], 4, 3, api.ErrShort},
		{"another many, cut", head(3, 3, 2)[:8], 3, 4, api.ErrShort},
		{"too many rows, and no ids", head(over, 3, 2), over, 3, api.ErrLong},
		{"too many rows, and other ones handed in", head(over, 3, 2), 3, 3, api.ErrLong},
		{"too many rows, and another many", head(over, 3, 2), over, 4, api.ErrLong},
		{"too many rows, and many that may not be", head(over, 0, 1), over, 0, api.ErrLong},
		{"too many rows, and another width", head(over, 3, 3), over, 3, api.ErrLong},
		{"other rows, and no ids", head(3, 3, 2), 4, 3, api.ErrForm},
		{"other rows, more than may be, and no ids", head(3, 3, 2), over, 3, api.ErrForm},
		{"another many, and no ids", head(3, 3, 2), 3, 2, api.ErrForm},
		{"another many, that may not be, and no ids", head(3, 3, 2), 3, -1, api.ErrForm},
		{"many that may not be, and no ids", head(3, 0, 1), 3, 0, api.ErrForm},
		{"many that may not be, of few ids", append(head(3, api.MaxIDs+1, 25), 1), 3, api.MaxIDs + 1, api.ErrForm},
		{"another width, and no ids", head(3, 3, 1), 3, 3, api.ErrForm},
		{"width 0, and no ids", head(3, 3, 0), 3, 3, api.ErrForm},
		{"width 65, and no ids", head(3, 3, 65), 3, 3, api.ErrForm},
		{"an id that may not be, and too few bytes", append(head(5, 3, 2), 0x33), 5, 3, api.ErrShort},
		{"ids that may not be, and too few bytes", append(head(9, 3, 2), 0xff, 0xff), 9, 3, api.ErrShort},
		{"an id that may not be, and more bytes", append(head(3, 3, 2), 0x33, 0), 3, 3, api.ErrForm},
		{"a bit behind, and more bytes", append(head(3, 3, 2), 0x61, 0), 3, 3, api.ErrForm},
		{"a bit behind, and an id that may not be", append(head(3, 3, 2), 0x73), 3, 3, api.ErrForm},
	} {
		checkNotRead(t, c.name, c.b, c.rows, c.many, c.want)
		checkAsMet(t, c.name, c.b, c.rows, c.many)
	}
}

// Whichever byte is changed, and wherever they end, what is told is what the chapter's words tell.
func TestReadOfChangedBytes(t *testing.T) {
	for _, many := range []int{0, 1, 2, 3, 5, 16, 17, 300, api.MaxIDs} {
		for rows := range 7 {
			if many == 0 && rows > 0 {
				break
			}
			b := append(bytesOf(some(rows, max(many, 1)), many), 0)
			for n := range len(b) + 1 {
				for i := range n {
					for _, x := range []byte{0, 1, 2, 3, 5, 16, 127, 128, 255, b[i] + 1, b[i] - 1, b[i] ^ 128, b[i] ^ 16} {
						changed := bytes.Clone(b[:n])
						changed[i] = x
						checkAsMet(t, "one byte changed", changed, rows, many)
					}
				}
			}
		}
	}
}

func TestReadOfAnyBytes(t *testing.T) {
	next := numbersOf()
	read := map[api.Errno]int{}
	for range 100000 {
		rows, many := next(12), next(9)
		h := [3]int{rows, many, width(many)}
		if next(4) == 0 {
			h[next(3)] = next(12)
		}
		b := head(uint32(h[0]), uint32(h[1]), byte(h[2]))
		for range next(6) {
			b = append(b, byte(next(256)&next(256)))
		}
		b = b[:len(b)-next(2)*next(2)*next(len(b))]
		checkAsMet(t, "any bytes", b, rows, many)
		_, e := meets(b, rows, many)
		read[e]++
	}
	if read[api.OK] < 1000 || read[api.ErrShort] < 1000 || read[api.ErrForm] < 1000 {
		t.Errorf("how often each error is met: %v", read)
	}
}

// There is one row of bytes: all those of one and of two bytes of ids are as they are told.
func TestReadOfAllBytes(t *testing.T) {
	for many := 1; many <= 9; many++ {
		for rows := range 18 {
			h := head(uint32(rows), uint32(many), byte(width(many)))
			for x := range 256 {
				checkAsMet(t, "a byte", append(bytes.Clone(h), byte(x)), rows, many)
			}
			for x := 0; x < 1<<16; x += 251 {
				checkAsMet(t, "two bytes", append(bytes.Clone(h), byte(x), byte(x>>8)), rows, many)
			}
		}
	}
}

// Memory.

func TestReadKeepsNoneOfTheBytes(t *testing.T) {
	all(func(ids []int, many int) {
		room := append(bytesOf(ids, many), "behind"...)
		was := bytes.Clone(room)
		x, e := forward.Read(room[:len(room)-len("behind")], len(ids), many)
		if e != api.OK || !bytes.Equal(room, was) {
			t.Fatalf("the error %d, the bytes stay: %t", e, bytes.Equal(room, was))
		}
		spoil(room, 'x')
		check(t, "of bytes that are changed behind it", x, ids, many)
		spoil(x.Bytes(), 'y')
		check(t, "whose bytes are changed", x, ids, many)
	})
}

func TestReadOfWrongBytesKeepsThem(t *testing.T) {
	for _, b := range [][]byte{
		head(3, 3, 2), head(3, 3, 2)[:5], append(head(3, 3, 2), 0x61), append(head(3, 3, 2), 0x33),
		append(head(3, 3, 2), 0x21, 0), append(head(4, 3, 2), 0x21), head(api.MaxRows+1, 3, 2),
	} {
		room := append(bytes.Clone(b), bytes.Repeat([]byte{'z'}, 40)...)
		forward.Read(room[:len(b)], 3, 3)
		if !bytes.Equal(room[:len(b)], b) || !bytes.Equal(room[len(b):], bytes.Repeat([]byte{'z'}, 40)) {
			t.Errorf("% x: the bytes have changed", b)
		}
	}
}
