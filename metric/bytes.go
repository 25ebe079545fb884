package metric

import (
	"isinglass/api"
	"isinglass/cursor"
)

// countSize and numberSize are how many bytes the number of rows takes, and each other number.
const (
	countSize  = 4
	numberSize = 8
)

// size is how many bytes a column of so many rows takes: its least and its greatest number stand there too.
func size(rows int) int { return countSize + numberSize*(2+rows) }

// Bytes is the bytes of c: how many rows there are, the least, the greatest, and each number.
func (c *Column) Bytes() []byte {
	all := c.told()
	if !all.made {
		return nil
	}
	b := append(make([]byte, 0, size(len(all.l))), cursor.AppendU32(nil, uint32(len(all.l)))...)
	b = appendNumber(appendNumber(b, all.least), all.greatest)
	for _, n := range all.l {
		b = appendNumber(b, n)
	}
	return b
}

// appendNumber is b, and n behind it, in the room that b has: layer 1 would copy all of b for each number.
func appendNumber(b []byte, n int64) []byte {
	return append(b, cursor.AppendU64(nil, uint64(n))...)
}

// Read is the column whose bytes b is: of so many rows.
func Read(b []byte, rows int) (*Column, api.Errno) {
	if len(b) < countSize {
		return nil, api.ErrShort
	}
	has := int(cursor.New(b[:countSize]).U32())
	switch {
	case has > api.MaxRows:
		return nil, api.ErrLong
	case len(b) < size(has):
		return nil, api.ErrShort
	case len(b) > size(has) || has != rows:
		return nil, api.ErrForm
	}
	r := cursor.New(b[countSize:])
	least, greatest := readNumber(r), readNumber(r)
	c := keep(readNumbers(r, has))
	if c.least != least || c.greatest != greatest {
		return nil, api.ErrForm
	}
	return c, api.OK
}

// readNumbers is the next n numbers, of which it is known that they stand there.
func readNumbers(r *cursor.Reader, n int) []int64 {
	l := make([]int64, n)
	for i := range l {
		l[i] = readNumber(r)
	}
	return l
}

// readNumber is the whole number whose bits stand next.
func readNumber(r *cursor.Reader) int64 { return int64(r.U64()) }
