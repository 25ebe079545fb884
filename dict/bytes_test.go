package dict_test

import (
	"bytes"
	"slices"
	"strings"
	"testing"

	"isinglass/api"
	"isinglass/dict"
	"isinglass/values"
)

// P11.4: what is right.

func TestReadTellsWhatIsWritten(t *testing.T) {
	for _, kind := range kinds() {
		for _, l := range lists(kind) {
			b := of(t, kind, l).Bytes()
			d, e := dict.Read(b)
			if e != api.OK {
				t.Fatalf("%d values of the kind %d: the error %d", len(l), kind, e)
			}
			check(t, "read again", d, kind, l)
			for _, v := range right(kind) {
				checkIntervals(t, d, l, v)
			}
		}
	}
}

func TestReadOfBytesByHand(t *testing.T) {
	for b, l := range map[string][]api.Value{
		"\x01\x00\x00\x00\x00":                                 nil,
		"\x02\x00\x00\x00\x00":                                 nil,
		"\x01\x01\x00\x00\x00\x05\x00\x00\x00\x00\x00\x00\x00": {values.Int(5)},
		"\x01\x02\x00\x00\x00\xff\xff\xff\xff\xff\xff\xff\xff\x00\x00\x00\x00\x00\x00\x00\x00": {values.Int(-1), values.Int(0)},
		"\x02\x01\x00\x00\x00\x00":                  {values.Text("")},
		"\x02\x03\x00\x00\x00\x00\x01a\x02ab":       {values.Text(""), values.Text("a"), values.Text("ab")},
		"\x02\x02\x00\x00\x00\x03\x00\x80\xff\x01b": {values.Text("\x00\x80\xff"), values.Text("b")},
	} {
		d, e := dict.Read([]byte(b))
		if e != api.OK {
			t.Fatalf("% x: the error %d", b, e)
		}
		check(t, "by hand", d, b[0], l)
		checkAsMet(t, "by hand", []byte(b))
	}
}

func TestReadOfTextsAsLongAsMayBe(t *testing.T) {
	for _, n := range []int{127, 128, 16383, 16384, api.MaxText - 1, api.MaxText} {
		l := []api.Value{values.Text(strings.Repeat("a", n)), values.Text(strings.Repeat("b", n))}
		d, e := dict.Read(bytesOf(api.KindText, l))
		if e != api.OK {
			t.Fatalf("texts of %d bytes: the error %d", n, e)
		}
		check(t, "long texts", d, api.KindText, l)
	}
}

// P11.4: what is refused.

func TestReadOfBytesThatAreCut(t *testing.T) {
	checkNotRead(t, "no bytes", nil, api.ErrShort)
	checkNotRead(t, "no bytes", []byte{}, api.ErrShort)
	for _, kind := range kinds() {
		l := right(kind)
		for _, l := range [][]api.Value{nil, l[:1], l[1:2], l[:4], l[5:15], l[14:18]} {
			b := bytesOf(kind, l)
			for n := range b {
				checkNotRead(t, "cut", b[:n], api.ErrShort)
				checkNotRead(t, "cut, without room behind", slices.Clip(b[:n]), api.ErrShort)
			}
		}
	}
	b := bytesOf(api.KindText, []api.Value{values.Text(strings.Repeat("c", api.MaxText))})
	for _, n := range []int{5, 6, 7, 8, 9, 1000, len(b) - 2, len(b) - 1} {
		checkNotRead(t, "a long text, cut", b[:n], api.ErrShort)
	}
}

func TestReadOfBytesWithMoreBehind(t *testing.T) {
	for _, kind := range kinds() {
		for _, l := range lists(kind) {
			b := bytesOf(kind, l)
			for _, behind := range []string{"\x00", "\x01", "\xff", "\x80\x00", string(b)} {
				checkNotRead(t, "more behind", slices.Concat(b, []byte(behind)), api.ErrForm)
			}
		}
	}
}

func TestReadOfAKindThatIsNone(t *testing.T) {
	for _, kind := range none() {
		for _, behind := range []string{"", "\x00", "\x00\x00\x00\x00", "\xff\xff\xff\xff", "\x01\x00\x00\x00", "\x01\x00\x00\x00\x05\x00\x00\x00\x00\x00\x00\x00", "\x01\x00\x00\x00\x80\x00"} {
			checkNotRead(t, "a kind that is none", append([]byte{kind}, behind...), api.ErrForm)
		}
	}
}

func TestReadOfValuesThatDoNotRise(t *testing.T) {
	for _, kind := range kinds() {
		l := right(kind)
		for i, a := range l {
			for k, b := range l {
				if i < k {
					continue
				}
				checkNotRead(t, "two that do not rise", bytesOf(kind, []api.Value{a, b}), api.ErrForm)
				if i > 0 && k+1 < len(l) { // one ahead, one behind
					checkNotRead(t, "in the middle", bytesOf(kind, []api.Value{l[0], a, b, l[len(l)-1]}), api.ErrForm)
				}
			}
		}
		b := bytesOf(kind, []api.Value{l[2], l[3], l[3], l[4]})
		end := len(bytesOf(kind, []api.Value{l[2], l[3], l[3]}))
		for n := end; n < len(b); n++ {
			checkNotRead(t, "two alike, and what is behind them cut", b[:n], api.ErrForm)
		}
		checkNotRead(t, "the second one of two alike cut", b[:end-1], api.ErrShort)
	}
}

// lengths are what may stand for a text's length, by what is told of it, where so many bytes do not follow.
func lengths() map[string]api.Errno {
	nines := strings.Repeat("\xff", 9)
	return map[string]api.Errno{
		"":                                     api.ErrShort,
		"\x01":                                 api.ErrShort,
		"\x7f":                                 api.ErrShort,
		"\x80":                                 api.ErrShort,
		"\xff":                                 api.ErrShort,
		"\x80\x01":                             api.ErrShort,
		"\x80\x80":                             api.ErrShort,
		"\x80\x80\x01":                         api.ErrShort,
		"\xff\xff\x03":                         api.ErrShort, // 65535
		"\x80\x80\x04":                         api.ErrForm,  // 65536
		"\x81\x80\x04":                         api.ErrForm,
		"\xff\xff\x7f":                         api.ErrForm,
		"\x80\x80\x80":                         api.ErrShort,
		"\xff\xff\xff":                         api.ErrShort,
		"\x80\x80\x80\x01":                     api.ErrForm,
		"\x80\x80\x80\x80\x08":                 api.ErrForm, // 2^31
		"\x80\x80\x80\x80\x10":                 api.ErrForm, // 2^32
		"\x82\x80\x80\x80\x10":                 api.ErrForm,
		nines:                                  api.ErrShort,
		nines + "\x01":                         api.ErrForm, // 2^64 - 1
		nines + "\x02":                         api.ErrForm,
		nines + "\x7f":                         api.ErrForm,
		nines + "\x80":                         api.ErrForm,
		nines + "\x81":                         api.ErrForm,
		nines + "\xff":                         api.ErrForm,
		nines + "\x00":                         api.ErrForm,
		nines[:8] + "\x7f":                     api.ErrForm, // 2^63 - 1
		strings.Repeat("\x80", 9):              api.ErrShort,
		strings.Repeat("\x80", 9) + "\x01":     api.ErrForm, // 2^63
		strings.Repeat("\x80", 9) + "\x02":     api.ErrForm, // 2^64
		strings.Repeat("\x80", 10):             api.ErrForm,
		strings.Repeat("\x80", 11):             api.ErrForm,
		strings.Repeat("\x80", 10) + "\x01":    api.ErrForm,
		strings.Repeat("\x80", 9) + "\x80\x00": api.ErrForm,
		"\x80\x00":                             api.ErrForm,
		"\x81\x00":                             api.ErrForm,
		"\x80\x80\x00":                         api.ErrForm,
		"\xff\xff\x83\x00":                     api.ErrForm,
		"\x80\x80\x80\x80\x00":                 api.ErrForm,
		strings.Repeat("\x80", 8) + "\x00":     api.ErrForm,
	}
}

func TestReadOfTextsLengths(t *testing.T) {
	for length, want := range lengths() {
		for _, n := range []int{1, 2, api.MaxIDs} {
			b := append(head(api.KindText, n), length...)
			checkNotRead(t, "a length", b, want)
			checkNotRead(t, "a length, with room behind", append(b, bytes.Repeat([]byte{1}, 64)...)[:len(b)], want)
			checkAsMet(t, "a length", b)
			more := slices.Concat(head(api.KindText, n+1-n/api.MaxIDs), []byte("\x03abc"), []byte(length))
			checkNotRead(t, "a length behind a text", more, want)
		}
		if want == api.ErrForm { // whatever follows
			for _, n := range []int{1, 100, 1 << 17} {
				for _, x := range []byte{0, 1, 'a', 128, 255} {
					checkNotRead(t, "a wrong length", slices.Concat(head(api.KindText, 1), []byte(length), bytes.Repeat([]byte{x}, n)), want)
				}
			}
		}
	}
}

func TestReadOfATextThatIsTooLong(t *testing.T) {
	for _, n := range []int{api.MaxText + 1, api.MaxText + 2, 1 << 17, 1 << 21} {
		b := bytesOf(api.KindText, []api.Value{values.Text("a"), values.Text(strings.Repeat("c", n))})
		checkNotRead(t, "a text too long", b, api.ErrForm)
		checkNotRead(t, "a text too long, with more behind", append(bytes.Clone(b), 1), api.ErrForm)
		length := len(b) - n
		for _, end := range []int{length, length + 1, length + 1000, len(b) - 1} {
			checkNotRead(t, "a text too long, cut", b[:end], api.ErrForm)
		}
		for end := 7; end < length; end++ {
			checkNotRead(t, "its length, cut", b[:end], api.ErrShort)
		}
	}
}

func TestReadOfLengthsOfAnyBytes(t *testing.T) {
	tails := []string{"", "\x00", "\x01", "\x03", "\x04", "\x80", "a", "\x80\x00", "\x80\x01", "aa", "\x01aa", strings.Repeat("b", 300)}
	for n := range 1 << 16 {
		if x, y := byte(n), byte(n>>8); x%128 > 5 && x%128 < 122 || y%128 > 5 && y%128 < 122 { // those at the edges alone
			continue
		}
		for _, tail := range tails {
			checkAsMet(t, "a length of any bytes", append(append(head(api.KindText, 1), byte(n), byte(n>>8)), tail...))
		}
	}
}

func TestReadOfHowManyValues(t *testing.T) {
	for _, kind := range kinds() {
		for _, n := range []int{1, 2, 255, 65536, api.MaxIDs - 1, api.MaxIDs} {
			checkNotRead(t, "as many as may be, and no values", head(kind, n), api.ErrShort)
		}
		for _, n := range []int{api.MaxIDs + 1, api.MaxIDs + 2, 1 << 25, 1 << 31, 1<<32 - 1} {
			checkNotRead(t, "too many, and no values", head(kind, n), api.ErrLong)
			checkNotRead(t, "too many, and cut", head(kind, n)[:4], api.ErrShort)
			checkNotRead(t, "too many, and some values", append(head(kind, n), tail(right(kind))...), api.ErrLong)
			checkNotRead(t, "too many, and a wrong length", append(head(kind, n), 128, 0), api.ErrLong)
		}
		l := right(kind)
		for n := range len(l) + 5 {
			want := api.OK
			if n < len(l) {
				want = api.ErrForm
			} else if n > len(l) {
				want = api.ErrShort
			}
			if d, e := dict.Read(append(head(kind, n), tail(l)...)); e != want || (d != nil) != (e == api.OK) {
				t.Errorf("%d values, told to be %d: the error %d, not %d", len(l), n, e, want)
			}
		}
	}
}

// Of two things that are wrong the first one is told.
func TestReadTellsWhatIsMetFirst(t *testing.T) {
	five, six := "\x05\x00\x00\x00\x00\x00\x00\x00", "\x06\x00\x00\x00\x00\x00\x00\x00"
	for b, want := range map[string]api.Errno{
		"\x03":                                      api.ErrForm,  // a kind that is none, cut
		"\x00\x01\x00":                              api.ErrForm,  //
		"\xff\xff\xff\xff\xff":                      api.ErrForm,  // and too many
		"\x01\xff\xff\xff":                          api.ErrShort, // how many, cut
		"\x01\x01\x00\x00\x01":                      api.ErrLong,  // too many, and no values
		"\x01\x01\x00\x00\x01" + six + five:         api.ErrLong,  // that do not rise
		"\x02\x00\x00\x00\xff\x80\x00":              api.ErrLong,  // and a wrong length
		"\x01\x03\x00\x00\x00" + six + five:         api.ErrForm,  // values that do not rise, and bytes that end too early
		"\x01\x03\x00\x00\x00" + six + five[:7]:     api.ErrShort, // the latter within the former
		"\x01\x02\x00\x00\x00" + six + six + "\x00": api.ErrForm,  // alike, and more behind
		"\x01\x01\x00\x00\x00" + six + five:         api.ErrForm,  // more behind, that does not rise
		"\x01\x01\x00\x00\x00" + six + five[:3]:     api.ErrForm,  // more behind, cut
		"\x02\x03\x00\x00\x00\x01b\x01a":            api.ErrForm,  // as of whole numbers
		"\x02\x03\x00\x00\x00\x01b\x02a":            api.ErrShort,
		"\x02\x03\x00\x00\x00\x01b\x01a\x80\x00":    api.ErrForm,  // values that do not rise, ahead of a wrong length
		"\x02\x02\x00\x00\x00\x01b\x80\x80\x04":     api.ErrForm,  // a text too long, cut
		"\x02\x02\x00\x00\x00\x80\x00":              api.ErrForm,  // a wrong length, and bytes that end too early
		"\x02\x01\x00\x00\x00\x80\x00\x01a":         api.ErrForm,  // and more behind
		"\x02\x02\x00\x00\x00\x05a":                 api.ErrShort, // ahead of a second text
		"\x02\x02\x00\x00\x00\x05a\x80\x00":         api.ErrShort, // a wrong length within a text is none
		"\x02\x02\x00\x00\x00\x02\x80\x00":          api.ErrShort,
		"\x02\x00\x00\x00\x00\x80\x00":              api.ErrForm, // a wrong length, behind all
	} {
		checkNotRead(t, "two things wrong", []byte(b), want)
		checkAsMet(t, "two things wrong", []byte(b))
	}
}

// Whichever byte is changed, and wherever they end, what is told is what a reader meets.
func TestReadOfChangedBytes(t *testing.T) {
	for _, kind := range kinds() {
		l := right(kind)
		for _, l := range [][]api.Value{nil, l[:1], l[7:9], l[8:14]} {
			b := append(bytesOf(kind, l), 1, 'b', 9)
			for n := range len(b) + 1 {
				for i := range n {
					for _, x := range []byte{0, 1, 2, 3, 'a', 'b', 127, 128, 129, 255, b[i] + 1, b[i] - 1, b[i] ^ 128} {
						changed := bytes.Clone(b[:n])
						changed[i] = x
						checkAsMet(t, "one byte changed", changed)
					}
				}
			}
		}
	}
}

func TestReadOfAnyBytes(t *testing.T) {
	seed := uint64(1)
	next := func(n uint64) int {
		seed = seed*6364136223846793005 + 1442695040888963407
		return int(seed >> 33 % n)
	}
	some := []byte{0, 0, 0, 0, 1, 1, 2, 2, 3, 'a', 'b', 127, 128, 129, 255}
	read := map[api.Errno]int{}
	for range 200000 {
		b := head(uint8(1+next(2)), next(4))
		for range next(30) {
			b = append(b, some[next(uint64(len(some)))])
		}
		checkAsMet(t, "any bytes", b)
		read[meets(b).e]++
	}
	if read[api.OK] < 1000 || read[api.ErrShort] < 1000 || read[api.ErrForm] < 1000 {
		t.Errorf("how often each error is met: %v", read)
	}
}

// Memory.

func TestReadKeepsNoneOfTheBytes(t *testing.T) {
	for _, kind := range kinds() {
		for _, l := range lists(kind) {
			room := append(bytesOf(kind, l), "behind"...)
			was := bytes.Clone(room)
			d, e := dict.Read(room[:len(room)-len("behind")])
			if e != api.OK || !bytes.Equal(room, was) {
				t.Fatalf("the error %d, the bytes stay: %t", e, bytes.Equal(room, was))
			}
			spoil(room, 'x')
			check(t, "of bytes that are changed behind it", d, kind, l)
			spoil(d.Bytes(), 'y')
			check(t, "whose bytes are changed", d, kind, l)
		}
	}
}

func TestReadOfWrongBytesKeepsThem(t *testing.T) {
	for _, b := range []string{"\x02\x01\x00\x00\x00\x80\x00", "\x02\x01\x00\x00\x00\x80", "\x01\x01\x00\x00\x00\x05", "\x02\x01\x00\x00\x00\xff\xff\xff\xff\xff\xff\xff\xff\xff\x02"} {
		room := append([]byte(b), strings.Repeat("z", 40)...)
		dict.Read(room[:len(b)])
		if string(room) != b+strings.Repeat("z", 40) {
			t.Errorf("% x: the bytes have changed", b)
		}
	}
}
