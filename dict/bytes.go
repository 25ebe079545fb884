package dict

import (
	"slices"

	"isinglass/api"
	"isinglass/cursor"
	"isinglass/values"
)

// mostOfLength is how many bytes of a text may stand for its length at most, right or wrong: so many has a short number.
const mostOfLength = 10

// Bytes is the bytes of d: its kind, how many values it has, and theirs.
func (d *Dict) Bytes() []byte {
	if d.Kind() == 0 {
		return nil
	}
	b := cursor.AppendU32([]byte{d.kind}, uint32(d.Len()))
	for _, v := range d.l {
		b = append(b, values.Append(nil, v)...) // what values puts behind b is a copy of all of b
	}
	return b
}

// Read is the dictionary whose bytes b is.
func Read(b []byte) (*Dict, api.Errno) {
	r := cursor.New(b)
	kind, n, e := readHead(r)
	if e != api.OK {
		return nil, e
	}
	l, e := readValues(r, b, kind, n)
	switch {
	case e != api.OK:
		return nil, e
	case r.Left() > 0:
		return nil, api.ErrForm
	}
	return &Dict{kind: kind, l: l}, api.OK
}

// readHead reads the kind, and how many values there are.
func readHead(r *cursor.Reader) (kind uint8, n uint32, e api.Errno) {
	kind = r.U8()
	switch {
	case r.Bad():
		return 0, 0, api.ErrShort
	case !isKind(kind):
		return 0, 0, api.ErrForm
	}
	n = r.U32()
	switch {
	case r.Bad():
		return 0, 0, api.ErrShort
	case n > api.MaxIDs:
		return 0, 0, api.ErrLong
	}
	return kind, n, api.OK
}

// readValues reads n values, that rise, with a reader of b. It asks for room as it reads, since b may tell far more values than it has.
func readValues(r *cursor.Reader, b []byte, kind uint8, n uint32) ([]api.Value, api.Errno) {
	var l []api.Value
	for range n {
		at := r.At()
		v, there := values.Read(r, kind)
		switch {
		case !there:
			return nil, fault(kind, b[at:])
		case len(l) > 0 && values.Compare(l[len(l)-1], v) >= 0:
			return nil, api.ErrForm
		}
		l = append(l, v)
	}
	return l, api.OK
}

// fault is why no value of that kind stands at the head of b: either b ends too early, or it is a text's length that is wrong.
func fault(kind uint8, b []byte) api.Errno {
	if kind == api.KindText && lengthIsWrong(b) {
		return api.ErrForm
	}
	return api.ErrShort
}

// lengthIsWrong is whether what stands at the head of b as a text's length is more than may be, or no short number. Where b ends ahead of its last byte, nothing is wrong yet.
func lengthIsWrong(b []byte) bool {
	head := b[:min(len(b), mostOfLength)]
	if len(head) < mostOfLength && !slices.ContainsFunc(head, endsNumber) {
		return false
	}
	r := cursor.New(head)
	size := r.Uint()
	return r.Bad() || size > api.MaxText
}

// endsNumber is whether a short number ends with that byte.
func endsNumber(x byte) bool { return x < 128 }
