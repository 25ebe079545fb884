package values_test

import (
	"encoding/binary"
	"math"
	"strings"
	"testing"

	"isinglass/api"
	"isinglass/cursor"
	"isinglass/values"
)

// numbers are whole numbers at which a byte or a sign changes, rising.
func numbers() []int64 {
	return []int64{
		math.MinInt64, math.MinInt64 + 1, math.MinInt32 - 1, math.MinInt32, -65537, -65536, -257, -256, -255, -129, -128, -127, -2, -1,
		0, 1, 2, 127, 128, 129, 255, 256, 257, 65535, 65536, 1<<31 - 1, 1 << 31, 1<<32 - 1, 1 << 32, math.MaxInt64 - 1, math.MaxInt64,
	}
}

// texts are texts of any bytes, rising: some begin others, some are no letters.
func texts() []string {
	return []string{
		"", "\x00", "\x00\x00", "\x00a", "\n", " ", "-1", "1", "10", "2", "A", "Z", "a", "a\x00", "aa", "ab", "b",
		strings.Repeat("c", 127), strings.Repeat("c", 128), strings.Repeat("c", 300), strings.Repeat("c", 16383), strings.Repeat("c", 16384),
		strings.Repeat("c", api.MaxText-1), strings.Repeat("c", api.MaxText),
		"\x7f", "\x80", "\xc3", "\xc3\xa4", "\xe2\x82\xac", "\xff", "\xff\x00", "\xff\xff",
	}
}

// longTexts are texts that are too long, rising.
func longTexts() []string {
	return []string{strings.Repeat("c", api.MaxText+1), strings.Repeat("c", 100000), strings.Repeat("\xff", api.MaxText+1)}
}

// right are values that may be, in their order.
func right() []api.Value {
	var l []api.Value
	for _, n := range numbers() {
		l = append(l, api.Value{Kind: api.KindInt, N: n})
	}
	for _, s := range texts() {
		l = append(l, api.Value{Kind: api.KindText, S: s})
	}
	return l
}

// wrong are values that may not be.
func wrong() []api.Value {
	var l []api.Value
	for kind := range 256 {
		switch k := uint8(kind); k {
		case api.KindInt:
			l = append(l, api.Value{Kind: k, S: "a"}, api.Value{Kind: k, N: -1, S: "\x00"}, api.Value{Kind: k, N: 5, S: longTexts()[0]})
		case api.KindText:
			l = append(l, api.Value{Kind: k, N: 1}, api.Value{Kind: k, N: -1, S: "a"}, api.Value{Kind: k, N: math.MinInt64})
			for _, s := range longTexts() {
				l = append(l, api.Value{Kind: k, S: s}, api.Value{Kind: k, N: 1, S: s})
			}
		default:
			l = append(l, api.Value{Kind: k}, api.Value{Kind: k, N: 7}, api.Value{Kind: k, S: "a"}, api.Value{Kind: k, N: -7, S: "b"})
		}
	}
	return l
}

// ahead is by the chapter's words whether a comes first of two that are not the same.
func ahead(a, b api.Value) bool {
	if a.Kind != b.Kind {
		return a.Kind < b.Kind
	}
	if a.N != b.N {
		return a.N < b.N
	}
	for i := range min(len(a.S), len(b.S)) {
		if a.S[i] != b.S[i] {
			return a.S[i] < b.S[i]
		}
	}
	return len(a.S) < len(b.S)
}

// bytesOf is by the chapter's words the bytes of a value.
func bytesOf(v api.Value) []byte {
	switch v.Kind {
	case api.KindInt:
		return binary.LittleEndian.AppendUint64(nil, uint64(v.N))
	case api.KindText:
		return append(binary.AppendUvarint(nil, uint64(len(v.S))), v.S...)
	}
	return nil
}

// name tells a value in few letters.
func name(v api.Value) (kind uint8, n int64, size int, head string) {
	return v.Kind, v.N, len(v.S), v.S[:min(len(v.S), 8)]
}

// checkRefused tells whether nothing is read as a value of a kind.
func checkRefused(t *testing.T, r *cursor.Reader, kind uint8, why string) {
	t.Helper()
	if v, ok := values.Read(r, kind); ok || v != (api.Value{}) {
		t.Errorf("%s, read as of the kind %d: %t, %v", why, kind, ok, v)
	}
}
