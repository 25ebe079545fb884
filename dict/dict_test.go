package dict_test

import (
	"math"
	"slices"
	"strings"
	"testing"

	"isinglass/api"
	"isinglass/dict"
	"isinglass/values"
)

// P11.1

func TestExamples(t *testing.T) {
	d := of(t, api.KindText, []api.Value{values.Text("b"), values.Text("a"), values.Text("b")})
	check(t, "b, a, b", d, api.KindText, []api.Value{values.Text("a"), values.Text("b")})
	if id, there := d.Find(values.Text("b")); d.Len() != 2 || id != 1 || !there {
		t.Errorf("%d values, b is %d, %t", d.Len(), id, there)
	}
	if lo, hi, e := d.Interval(api.CmpLess, values.Text("b")); lo != 0 || hi != 1 || e != api.OK {
		t.Errorf("less than b: %d, %d, the error %d", lo, hi, e)
	}
	if lo, hi, e := d.Interval(api.CmpAtLeast, values.Text("c")); lo != 2 || hi != 2 || e != api.OK {
		t.Errorf("at least c: %d, %d, the error %d", lo, hi, e)
	}
	if b := of(t, api.KindInt, []api.Value{values.Int(5)}).Bytes(); string(b) != "\x01\x01\x00\x00\x00\x05\x00\x00\x00\x00\x00\x00\x00" {
		t.Errorf("of the whole number 5: % x", b)
	}
}

func TestOfOfNoneOneAndMany(t *testing.T) {
	for _, kind := range kinds() {
		for _, l := range lists(kind) {
			check(t, "rising", of(t, kind, l), kind, l)
		}
	}
}

func TestOfOfAnyOrderHasEachOnce(t *testing.T) {
	for _, kind := range kinds() {
		for _, l := range lists(kind) {
			if len(l) == 0 {
				continue
			}
			for _, from := range orders(l) {
				check(t, "in another order", of(t, kind, from), kind, l)
			}
		}
	}
}

func TestOfOfAllPermutations(t *testing.T) {
	for _, kind := range kinds() {
		l := right(kind)[8:12]
		for a := range 4 {
			for b := range 4 {
				for c := range 4 {
					for d := range 4 {
						want := slices.Compact(slices.Sorted(slices.Values([]int{a, b, c, d})))
						var rising []api.Value
						for _, i := range want {
							rising = append(rising, l[i])
						}
						check(t, "four values", of(t, kind, []api.Value{l[a], l[b], l[c], l[d]}), kind, rising)
					}
				}
			}
		}
	}
}

func TestOfRefusesAKindThatIsNone(t *testing.T) {
	for _, kind := range none() {
		for _, l := range [][]api.Value{nil, {}, ints(), texts(), {{Kind: kind}}, {values.Int(1), values.Text("a")}, wrong()} {
			checkNotMade(t, "a kind that is none", kind, l, api.ErrArg)
		}
	}
}

func TestOfRefusesAValueThatMayNotBe(t *testing.T) {
	for _, kind := range kinds() {
		l := right(kind)[:4]
		strange := right(other(kind))[3]
		for _, v := range wrong() {
			checkNotMade(t, "alone", kind, []api.Value{v}, api.ErrArg)
			for i := range len(l) + 1 {
				checkNotMade(t, "among others", kind, slices.Insert(slices.Clone(l), i, v), api.ErrArg)
			}
			checkNotMade(t, "ahead of one of another kind", kind, []api.Value{l[0], v, strange}, api.ErrArg)
			checkNotMade(t, "behind one of another kind", kind, []api.Value{strange, v, l[0]}, api.ErrArg)
			checkNotMade(t, "with one of another kind alone", kind, []api.Value{strange, v}, api.ErrArg)
		}
	}
}

func TestOfRefusesAValueOfAnotherKind(t *testing.T) {
	for _, kind := range kinds() {
		l := right(kind)
		checkNotMade(t, "all of them", kind, right(other(kind)), api.ErrType)
		for _, v := range right(other(kind)) {
			checkNotMade(t, "alone", kind, []api.Value{v}, api.ErrType)
			checkNotMade(t, "ahead", kind, slices.Concat([]api.Value{v}, l), api.ErrType)
			checkNotMade(t, "behind", kind, slices.Concat(l, []api.Value{v}), api.ErrType)
			checkNotMade(t, "between", kind, slices.Insert(slices.Clone(l), 3, v), api.ErrType)
		}
	}
}

// rising are n whole numbers from 0 on, and behind them more values.
func rising(n int, more ...api.Value) []api.Value {
	l := make([]api.Value, n, n+len(more))
	for i := range l {
		l[i] = values.Int(int64(i))
	}
	return append(l, more...)
}

func TestOfOfAsManyAsMayBe(t *testing.T) {
	last := values.Int(api.MaxIDs - 1)
	d := of(t, api.KindInt, rising(api.MaxIDs, last, last)) // more values, but no more that are not alike
	if v, e := d.Value(api.MaxIDs - 1); d.Len() != api.MaxIDs || v != last || e != api.OK {
		t.Fatalf("%d values, the last one %v", d.Len(), v)
	}
	if id, there := d.Find(last); id != api.MaxIDs-1 || !there {
		t.Errorf("the last one is %d, %t", id, there)
	}
	b := d.Bytes()
	if again, e := dict.Read(b); e != api.OK || again.Len() != api.MaxIDs {
		t.Errorf("read again: %d values, the error %d", again.Len(), e)
	}
	b = append(b, tail([]api.Value{values.Int(api.MaxIDs)})...)
	copy(b, head(api.KindInt, api.MaxIDs+1))
	checkNotRead(t, "one too many", b, api.ErrLong)
}

func TestOfRefusesMoreThanMayBe(t *testing.T) {
	l := rising(api.MaxIDs, values.Int(api.MaxIDs), values.Text("a"), api.Value{Kind: 3})
	checkNotMade(t, "one too many", api.KindInt, l[:api.MaxIDs+1], api.ErrLong)
	checkNotMade(t, "one too many, and one of another kind", api.KindInt, l[:api.MaxIDs+2], api.ErrLong)
	checkNotMade(t, "one too many, and one that may not be", api.KindInt, l, api.ErrArg)
	checkNotMade(t, "one too many, all of another kind", api.KindText, l[:api.MaxIDs+1], api.ErrLong)
	checkNotMade(t, "as many as may be, all of another kind", api.KindText, l[:api.MaxIDs], api.ErrType)
}

// P11.2

func TestValueOfNoID(t *testing.T) {
	for _, kind := range kinds() {
		for _, l := range lists(kind) {
			d := of(t, kind, l)
			for _, id := range []int{math.MinInt, -len(l), -2, -1, len(l), len(l) + 1, math.MaxInt32, math.MaxInt} {
				if id == 0 {
					continue
				}
				if v, e := d.Value(id); v != (api.Value{}) || e != api.ErrNone {
					t.Errorf("%d of %d values: %v, the error %d", id, len(l), show(v), e)
				}
			}
		}
	}
}

func TestFindOfWhatIsNotThere(t *testing.T) {
	for _, kind := range kinds() {
		for _, l := range lists(kind) {
			d := of(t, kind, l)
			for _, v := range slices.Concat(right(kind), right(other(kind)), wrong()) {
				if slices.Contains(l, v) {
					continue
				}
				if id, there := d.Find(v); id != 0 || there {
					t.Errorf("%v, not among %d values of the kind %d: %d, %t", show(v), len(l), kind, id, there)
				}
			}
			for _, v := range l { // like one that is there, but for what it may not have
				for _, v := range []api.Value{{Kind: v.Kind, N: v.N + 1, S: v.S + "\x00"}, {Kind: v.Kind + 2, N: v.N, S: v.S}, {N: v.N, S: v.S}} {
					if id, there := d.Find(v); id != 0 || there {
						t.Errorf("%v: %d, %t", show(v), id, there)
					}
				}
			}
		}
	}
}

func TestAllLeftAheadOfItsEnd(t *testing.T) {
	for _, kind := range kinds() {
		l := right(kind)
		d := of(t, kind, l)
		for end := range len(l) + 2 {
			n := 0
			d.All()(func(id int, v api.Value) bool {
				if id != n || v != l[id] {
					t.Fatalf("left at %d: %d, %v", end, id, show(v))
				}
				n++
				return n < end
			})
			if want := min(max(end, 1), len(l)); n != want {
				t.Errorf("left at %d: %d values", end, n)
			}
		}
		for id, v := range d.All() {
			if id == 3 {
				if v != l[3] {
					t.Errorf("the value of 3 is %v", show(v))
				}
				break
			}
		}
	}
}

func TestAllIsRangedOverOnceMore(t *testing.T) {
	l := ints()
	all := of(t, api.KindInt, l).All()
	pairs := 0
	for a, v := range all {
		for b, w := range all {
			if v != l[a] || w != l[b] {
				t.Fatalf("%d, %v and %d, %v", a, v, b, w)
			}
			pairs++
		}
	}
	if pairs != len(l)*len(l) {
		t.Errorf("%d pairs", pairs)
	}
}

// P11.3

// checkIntervals tells whether each comparison with v has just the ids that are so, or what is wrong with it.
func checkIntervals(t *testing.T, d *dict.Dict, l []api.Value, v api.Value) {
	t.Helper()
	for n := range 256 {
		cmp := uint8(n)
		lo, hi, e := d.Interval(cmp, v)
		want := api.OK
		switch {
		case !values.May(v) || n < 1 || n == 2 || n > 6:
			want = api.ErrArg
		case v.Kind != d.Kind():
			want = api.ErrType
		}
		if e != want || e != api.OK && (lo != 0 || hi != 0) {
			t.Errorf("%v by %d: %d, %d, the error %d, not %d", show(v), n, lo, hi, e, want)
		}
		if want == api.OK {
			checkInterval(t, l, cmp, v, lo, hi)
		}
	}
}

// checkInterval tells whether the ids from lo on, below hi, are just those whose values are so to v, and where lo and hi are, if none is.
func checkInterval(t *testing.T, l []api.Value, cmp uint8, v api.Value, lo, hi int) {
	t.Helper()
	some := false
	edge := len(l)
	for id := len(l) - 1; id >= 0; id-- {
		is := so(cmp, l[id], v)
		some = some || is
		if is != (lo <= id && id < hi) {
			t.Errorf("%v by %d, among %d values: %d, %d, but %d is %t", show(v), cmp, len(l), lo, hi, id, is)
		}
		if cmp == api.CmpMore && so(api.CmpMore, l[id], v) || cmp != api.CmpMore && so(api.CmpAtLeast, l[id], v) {
			edge = id
		}
	}
	if lo < 0 || lo > hi || hi > len(l) || !some && (lo != edge || hi != edge) {
		t.Errorf("%v by %d, among %d values, of which some are so: %t: %d, %d, the edge %d", show(v), cmp, len(l), some, lo, hi, edge)
	}
}

func TestIntervals(t *testing.T) {
	for _, kind := range kinds() {
		for _, l := range lists(kind) {
			d := of(t, kind, l)
			for _, v := range right(kind) {
				checkIntervals(t, d, l, v)
			}
			for _, v := range slices.Concat(right(other(kind))[:3], wrong()) {
				checkIntervals(t, d, l, v)
			}
		}
	}
}

func TestIntervalsByHand(t *testing.T) {
	d := of(t, api.KindInt, []api.Value{values.Int(10), values.Int(20), values.Int(30)})
	for _, c := range []struct {
		cmp    uint8
		n      int64
		lo, hi int
	}{
		{api.CmpEqual, 5, 0, 0}, {api.CmpEqual, 10, 0, 1}, {api.CmpEqual, 15, 1, 1}, {api.CmpEqual, 30, 2, 3}, {api.CmpEqual, 31, 3, 3},
		{api.CmpLess, 5, 0, 0}, {api.CmpLess, 10, 0, 0}, {api.CmpLess, 15, 0, 1}, {api.CmpLess, 30, 0, 2}, {api.CmpLess, 31, 0, 3},
		{api.CmpAtMost, 5, 0, 0}, {api.CmpAtMost, 10, 0, 1}, {api.CmpAtMost, 15, 0, 1}, {api.CmpAtMost, 30, 0, 3}, {api.CmpAtMost, 31, 0, 3},
		{api.CmpMore, 5, 0, 3}, {api.CmpMore, 10, 1, 3}, {api.CmpMore, 15, 1, 3}, {api.CmpMore, 30, 3, 3}, {api.CmpMore, 31, 3, 3},
		{api.CmpAtLeast, 5, 0, 3}, {api.CmpAtLeast, 10, 0, 3}, {api.CmpAtLeast, 15, 1, 3}, {api.CmpAtLeast, 30, 2, 3}, {api.CmpAtLeast, 31, 3, 3},
	} {
		if lo, hi, e := d.Interval(c.cmp, values.Int(c.n)); lo != c.lo || hi != c.hi || e != api.OK {
			t.Errorf("%d by %d: %d, %d, the error %d", c.n, c.cmp, lo, hi, e)
		}
	}
}

// A dictionary that is not there.

func TestDictionaryThatIsNotThere(t *testing.T) {
	all := slices.Concat([]api.Value{{}, values.Int(0), values.Int(5), values.Text(""), values.Text("a")}, wrong())
	for name, d := range asked() {
		if d.Len() != 0 || d.Kind() != 0 || len(d.Bytes()) != 0 {
			t.Errorf("%s: %d values of the kind %d, % x", name, d.Len(), d.Kind(), d.Bytes())
		}
		for _, id := range []int{math.MinInt, -1, 0, 1, math.MaxInt} {
			if v, e := d.Value(id); v != (api.Value{}) || e != api.ErrNil {
				t.Errorf("%s: the value of %d is %v, the error %d", name, id, v, e)
			}
		}
		for _, v := range all {
			if id, there := d.Find(v); id != 0 || there {
				t.Errorf("%s: %v is %d, %t", name, show(v), id, there)
			}
			for cmp := range 256 {
				if lo, hi, e := d.Interval(uint8(cmp), v); lo != 0 || hi != 0 || e != api.ErrNil {
					t.Errorf("%s: %v by %d: %d, %d, the error %d", name, show(v), cmp, lo, hi, e)
				}
			}
		}
		for id, v := range d.All() {
			t.Errorf("%s: All tells %d, %v", name, id, v)
		}
	}
}

// One of no values is no zero one.
func TestDictionaryOfNoValues(t *testing.T) {
	for _, kind := range kinds() {
		d := of(t, kind, nil)
		check(t, "no values", d, kind, nil)
		if _, e := d.Value(0); e != api.ErrNone {
			t.Errorf("the value of 0: the error %d", e)
		}
		if b := d.Bytes(); string(b) != string([]byte{kind, 0, 0, 0, 0}) {
			t.Errorf("of the kind %d: % x", kind, b)
		}
	}
}

// Memory.

func TestWhatIsHandedInStays(t *testing.T) {
	for _, kind := range kinds() {
		l := right(kind)
		slices.Reverse(l)
		room := slices.Concat(l[:6], l[2:4], l[9:12]) // not in order, some twice, and more behind
		from := room[:8]
		was := slices.Clone(room)
		d := of(t, kind, from)
		want := slices.Clone(l[:6])
		slices.Reverse(want)
		if !slices.Equal(room, was) {
			t.Errorf("of the kind %d: the values have changed", kind)
		}
		spoil(room, values.Text("x"))
		check(t, "of values that are changed behind it", d, kind, want)
		of(t, kind, want)
		checkNotMade(t, "of another kind", other(kind), want, api.ErrType)
		check(t, "made of it", d, kind, want)
	}
}

func TestBytesHaveMemoryOfTheirOwn(t *testing.T) {
	for _, kind := range kinds() {
		for _, l := range lists(kind) {
			d := of(t, kind, l)
			one, two := d.Bytes(), d.Bytes()
			spoil(one, 7)
			if string(two) != string(bytesOf(kind, l)) {
				t.Errorf("of the kind %d: what is told twice shares memory", kind)
			}
			check(t, "whose bytes are changed", d, kind, l)
		}
	}
}

func TestWhatIsAskedChangesNothing(t *testing.T) {
	l := []api.Value{values.Text("a"), values.Text("b"), values.Text(strings.Repeat("c", 200))}
	d := of(t, api.KindText, l)
	for _, v := range slices.Concat(texts(), ints(), wrong()) {
		d.Find(v)
		for cmp := range 9 {
			d.Interval(uint8(cmp), v)
		}
	}
	for id := -3; id < 6; id++ {
		d.Value(id)
	}
	for id, v := range d.All() {
		v.S = "x"
		if id == 1 {
			break
		}
	}
	check(t, "asked much", d, api.KindText, l)
}
