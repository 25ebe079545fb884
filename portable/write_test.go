package portable_test

import (
	"bytes"
	"slices"
	"testing"

	"isinglass/api"
	"isinglass/portable"
	"isinglass/roaring"
)

// examples are sets, written down with their images.
func examples() map[string][]uint32 {
	return map[string][]uint32{
		"\x3a\x30\x00\x00\x00\x00\x00\x00":                                                                                         nil,
		"\x3a\x30\x00\x00\x01\x00\x00\x00\x00\x00\x01\x00\x10\x00\x00\x00\x01\x00\x02\x00":                                         {1, 2},
		"\x3b\x30\x00\x00\x01\x00\x00\x09\x00\x01\x00\x00\x00\x09\x00":                                                             every[uint32](0, 10, 1),
		"\x3a\x30\x00\x00\x02\x00\x00\x00\x01\x00\x00\x00\xff\xff\x01\x00\x18\x00\x00\x00\x1a\x00\x00\x00\x02\x01\x03\x00\xff\xff": {65536 + 258, top - 65532, top},
		"\x3b\x30\x02\x00\x04\x00\x00\x01\x00\x01\x00\x00\x00\x02\x00\xff\xff\x04\x00\x05\x00\x05\x00\x01\x00\x00\x00\xff\xff":     append([]uint32{4, 5, 65541}, every[uint32](131072, 196608, 1)...),
		"\x3b\x30\x03\x00\x01\x00\x00\x03\x00\x01\x00\x00\x00\x02\x00\x00\x00\x03\x00\x00\x00\x25\x00\x00\x00\x2b\x00\x00\x00\x2d\x00\x00\x00\x2f\x00\x00\x00\x01\x00\x07\x00\x03\x00\x01\x00\x02\x00\x03\x00": {7, 8, 9, 10, 65537, 131074, 196611},
	}
}

// checkWritten tells whether what is told of a set is that image, and that many bytes.
func checkWritten(t *testing.T, name string, s *roaring.Set, want []byte) {
	t.Helper()
	b := portable.Write(s)
	if !bytes.Equal(b, want) {
		t.Errorf("%s: Write tells %d bytes that are not the image's %d, % x first, not % x", name, len(b), len(want), b[:min(len(b), 40)], want[:min(len(want), 40)])
	}
	if n := portable.Size(s); n != len(want) {
		t.Errorf("%s: Size is %d, not %d", name, n, len(want))
	}
}

// P9.1

func TestWriteTellsTheExamples(t *testing.T) {
	for b, l := range examples() {
		checkWritten(t, "an example", roaring.Of(l), []byte(b))
	}
}

func TestWriteTellsTheImageOfManySets(t *testing.T) {
	for _, l := range many() {
		checkWritten(t, "a set", roaring.Of(l), imageOf(parted(l)).bytes())
	}
}

func TestWriteOfNone(t *testing.T) {
	for name, s := range none() {
		checkWritten(t, name, s, []byte{0x3a, 0x30, 0, 0, 0, 0, 0, 0})
	}
}

func TestWriteOfVeryManyContainers(t *testing.T) {
	var l []uint32
	for key := range uint32(1 << 16) {
		l = append(l, key<<16|key)
	}
	one, all := roaring.Of(l), roaring.New().Not(1<<32)
	some := roaring.Of(keyed(9000, 0x924924924924924))
	for name, s := range map[string]*roaring.Set{"one number of each key": one, "some keys in rows": some} {
		checkWritten(t, name, s, imageOf(parted(slices.Collect(s.All()))).bytes())
	}
	for name, s := range map[string]*roaring.Set{"one number of each key": one, "some keys in rows": some, "all": all} {
		b := portable.Write(s)
		got, next, e := portable.Read(b, 0)
		if len(b) != portable.Size(s) || next != len(b) || e != api.OK || !got.Same(s) {
			t.Errorf("%s: %d bytes, by Size %d, are read up to %d, the error %d, as %d numbers", name, len(b), portable.Size(s), next, e, got.Len())
		}
	}
	if b := portable.Write(all); !bytes.HasPrefix(b, []byte{0x3b, 0x30, 0xff, 0xff, 0xff}) || len(b) != 4+8192+(4+4+6)<<16 {
		t.Errorf("the image of all has %d bytes, % x first", len(b), b[:5])
	}
}

func TestHowManyBytesAnImageHasAtMost(t *testing.T) {
	for _, l := range many() {
		s := roaring.Of(l)
		if n := portable.Size(s); n > (8192+16)*len(s.Keys())+16 {
			t.Errorf("the image of %d containers has %d bytes", len(s.Keys()), n)
		}
	}
}

func TestWriteTellsMemoryOfItsOwnAndLeavesTheSet(t *testing.T) {
	for _, l := range many() {
		s, want := roaring.Of(l), imageOf(parted(l)).bytes()
		b, also := portable.Write(s), portable.Write(s)
		spoil(b)
		if !bytes.Equal(also, want) {
			t.Error("an image was changed with another one")
		}
		checkSet(t, "a set that was written", s, parted(l))
		checkWritten(t, "a set whose image was changed", s, want)
		s.AddRange(5, 70000)
		if !bytes.Equal(also, want) {
			t.Error("an image was changed with its set")
		}
	}
}
