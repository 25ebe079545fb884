package forward

import (
	"slices"

	"isinglass/api"
	"isinglass/cursor"
	"isinglass/pack"
)

// headSize is how many bytes stand ahead of the ids.
const headSize = 9

// Bytes is the bytes of x: how many rows and ids there are, the width, and the packed ids.
func (x *Index) Bytes() []byte {
	all := x.told()
	if all.width == 0 {
		return nil
	}
	b := cursor.AppendU32(nil, uint32(all.rows))
	b = cursor.AppendU32(b, uint32(all.many))
	b = append(b, byte(all.width))
	return append(b, all.packed...)
}

// Read is the index whose bytes b is: of so many rows and ids.
func Read(b []byte, rows, many int) (*Index, api.Errno) {
	x, e := readHead(b)
	switch {
	case e != api.OK:
		return nil, e
	case x.rows > api.MaxRows:
		return nil, api.ErrLong
	case x.rows != rows || x.many != many:
		return nil, api.ErrForm
	case !isMany(many, rows) || x.width != widthOf(many):
		return nil, api.ErrForm
	}
	if e := check(b[headSize:], x); e != api.OK {
		return nil, e
	}
	x.packed = slices.Clone(b[headSize:])
	return &x, api.OK
}

// readHead is what stands ahead of the ids. The reader is handed nothing else, since it copies all that it is handed.
func readHead(b []byte) (Index, api.Errno) {
	r := cursor.New(b[:min(len(b), headSize)])
	x := Index{rows: int(r.U32()), many: int(r.U32()), width: int(r.U8())}
	if r.Bad() {
		return Index{}, api.ErrShort
	}
	return x, api.OK
}

// check is what is wrong with packed ids of an index whose head is x.
func check(packed []byte, x Index) api.Errno {
	l, e := pack.Unpack(packed, x.rows, x.width)
	switch {
	case e != api.OK:
		return e
	case slices.ContainsFunc(l, func(id uint64) bool { return id >= uint64(x.many) }):
		return api.ErrForm
	}
	return api.OK
}
