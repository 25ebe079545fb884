package portable

import (
	"slices"

	"isinglass/api"
	"isinglass/container"
	"isinglass/cursor"
	"isinglass/roaring"
)

// image is an image that is read: its bytes with all behind them, how many of them are read, and what these told.
type image struct {
	b       []byte
	at      int
	shape   shape
	flags   []byte   // which containers are told as runs
	keys    []uint16 // of each container its key
	counts  []int    // of each container how many numbers the header tells
	offsets []uint32 // of each container where its bytes are to begin; none, if that is not told
}

// set reads the whole image, part by part.
func (im *image) set() (*roaring.Set, api.Errno) {
	for _, read := range [...]func() api.Errno{im.readCookie, im.readHeader, im.readOffsets} {
		if e := read(); e != api.OK {
			return nil, e
		}
	}
	l, e := im.containers()
	if e != api.OK {
		return nil, e
	}
	return roaring.Join(im.keys, l)
}

// next is a reader of the next n bytes, and whether so many are left. The reader is handed no byte more: it copies what it is handed, and many images may stand behind this one.
func (im *image) next(n int) (*cursor.Reader, bool) {
	if n > len(im.b)-im.at {
		return nil, false
	}
	from := im.at
	im.at += n
	return cursor.New(im.b[from:im.at]), true
}

// readCookie reads the cookie. Of fewer than 4 bytes it is too short, whatever they are, since no cookie has so few.
func (im *image) readCookie() api.Errno {
	r, there := im.next(4)
	if !there {
		return api.ErrShort
	}
	cookie := r.U32()
	switch {
	case cookie == plainCookie:
		return im.readCount()
	case uint16(cookie) == runsCookie:
		im.shape = shape{count: int(cookie>>16) + 1, runs: true}
		return im.readFlags()
	default:
		return api.ErrForm
	}
}

// readCount reads how many containers there are, behind the cookie of an image that tells none as runs.
func (im *image) readCount() api.Errno {
	r, there := im.next(4)
	if !there {
		return api.ErrShort
	}
	n := r.U32()
	if n > mostContainers {
		return api.ErrForm
	}
	im.shape = shape{count: int(n)}
	return api.OK
}

// readFlags reads which containers are told as runs: one at least, since of none the cookie is the other one.
func (im *image) readFlags() api.Errno {
	n := im.shape.flags()
	r, there := im.next(n)
	if !there {
		return api.ErrShort
	}
	im.flags = r.Bytes(n)
	used := im.shape.count - 8*(n-1) // bits of the last byte
	if im.flags[n-1]>>used != 0 || slices.Max(im.flags) == 0 {
		return api.ErrForm
	}
	return api.OK
}

// readHeader reads of each container its key, and how many numbers it is to have.
func (im *image) readHeader() api.Errno {
	r, there := im.next(im.shape.header())
	if !there {
		return api.ErrShort
	}
	for i := range im.shape.count {
		im.keys = append(im.keys, r.U16())
		im.counts = append(im.counts, int(r.U16())+1)
		if i > 0 && im.keys[i] <= im.keys[i-1] {
			return api.ErrForm
		}
	}
	return api.OK
}

// readOffsets reads the offsets, if there are any. Whether they are right is told container by container.
func (im *image) readOffsets() api.Errno {
	n := im.shape.offsets()
	r, there := im.next(n)
	if !there {
		return api.ErrShort
	}
	im.offsets = row(n/4, r.U32)
	return api.OK
}

// containers reads all containers' bytes, and looks at each one's offset ahead of them.
func (im *image) containers() ([]container.Container, api.Errno) {
	var l []container.Container
	for i, count := range im.counts {
		if len(im.offsets) > 0 && int(im.offsets[i]) != im.at {
			return nil, api.ErrForm
		}
		c, e := im.container(i)
		switch {
		case e != api.OK:
			return nil, e
		case c.Len() != count:
			return nil, api.ErrForm
		}
		l = append(l, c)
	}
	return l, api.OK
}

// container reads the bytes of the i-th container. Of rows that are not right it is one of no numbers, which is wrong too: the header can't tell so few.
func (im *image) container(i int) (container.Container, api.Errno) {
	reads := [...]func(count int) (container.Container, api.Errno){api.Arrays: im.array, api.Words: im.words, api.Runs: im.runs}
	return reads[im.kind(i)](im.counts[i])
}

// kind is the kind as which the i-th container is told.
func (im *image) kind(i int) uint8 {
	switch {
	case im.shape.runs && im.flags[i/8]>>(i%8)&1 == 1:
		return api.Runs
	case im.counts[i] > api.MaxArray:
		return api.Words
	default:
		return api.Arrays
	}
}

// array reads a container's numbers, of which there are so many.
func (im *image) array(count int) (container.Container, api.Errno) {
	r, there := im.next(2 * count)
	if !there {
		return container.Container{}, api.ErrShort
	}
	c, _ := container.OfArray(row(count, r.U16))
	return c, api.OK
}

// words reads a container's words, as many as all have.
func (im *image) words(int) (container.Container, api.Errno) {
	r, there := im.next(8 * wordCount)
	if !there {
		return container.Container{}, api.ErrShort
	}
	c, _ := container.OfWords(row(wordCount, r.U64))
	return c, api.OK
}

// runs reads a container's runs, of which its own bytes tell how many there are.
func (im *image) runs(int) (container.Container, api.Errno) {
	r, there := im.next(2)
	if !there {
		return container.Container{}, api.ErrShort
	}
	n := int(r.U16())
	r, there = im.next(4 * n)
	if !there {
		return container.Container{}, api.ErrShort
	}
	c, _ := container.OfRuns(row(n, func() api.Run { return api.Run{First: r.U16(), More: r.U16()} }))
	return c, api.OK
}

// row is n things in a row, as they are read one by one.
func row[T any](n int, read func() T) []T {
	l := make([]T, n)
	for i := range l {
		l[i] = read()
	}
	return l
}
