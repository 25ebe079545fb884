package portable

import (
	"slices"

	"isinglass/api"
	"isinglass/container"
	"isinglass/cursor"
	"isinglass/roaring"
)

// containersOf is the containers of s, by rising keys.
func containersOf(s *roaring.Set) []container.Container {
	l := make([]container.Container, len(s.Keys()))
	for i := range l {
		l[i], _ = s.At(i)
	}
	return l
}

// shapeOf is the shape of the image of some canonical containers.
func shapeOf(l []container.Container) shape {
	return shape{count: len(l), runs: slices.ContainsFunc(l, isRuns)}
}

// isRuns is whether a canonical container is told as runs.
func isRuns(c container.Container) bool { return c.Kind() == api.Runs }

// writer is an image that is written. It puts the bytes of a number alone behind its own, since cursor copies all that it puts a number behind.
type writer struct {
	shape shape
	image []byte
}

func (w *writer) u16(n uint16) { w.image = append(w.image, cursor.AppendU16(nil, n)...) }

func (w *writer) u32(n uint32) { w.image = append(w.image, cursor.AppendU32(nil, n)...) }

func (w *writer) u64(n uint64) { w.image = append(w.image, cursor.AppendU64(nil, n)...) }

// cookie writes how many containers there are, and which of them are told as runs.
func (w *writer) cookie(l []container.Container) {
	if !w.shape.runs {
		w.u32(plainCookie)
		w.u32(uint32(w.shape.count))
		return
	}
	w.u16(runsCookie)
	w.u16(uint16(w.shape.count - 1))
	flags := make([]byte, w.shape.flags())
	for i, c := range l {
		if isRuns(c) {
			flags[i/8] |= 1 << (i % 8)
		}
	}
	w.image = append(w.image, flags...)
}

// header writes of each container its key, and how many numbers it has.
func (w *writer) header(keys []uint16, l []container.Container) {
	for i, c := range l {
		w.u16(keys[i])
		w.u16(uint16(c.Len() - 1))
	}
}

// offsets writes of each container where its bytes begin, if the image has offsets.
func (w *writer) offsets(l []container.Container) {
	if w.shape.offsets() == 0 {
		return
	}
	at := w.shape.ahead()
	for _, c := range l {
		w.u32(uint32(at))
		at += c.Size()
	}
}

// container writes a container's bytes, as its kind has them.
func (w *writer) container(c container.Container) {
	writes := [...]func(container.Container){api.Arrays: w.array, api.Words: w.words, api.Runs: w.runs}
	writes[c.Kind()](c)
}

func (w *writer) array(c container.Container) {
	for _, x := range c.Array() {
		w.u16(x)
	}
}

func (w *writer) words(c container.Container) {
	for _, word := range c.Words() {
		w.u64(word)
	}
}

func (w *writer) runs(c container.Container) {
	l := c.Runs()
	w.u16(uint16(len(l)))
	for _, run := range l {
		w.u16(run.First)
		w.u16(run.More)
	}
}
