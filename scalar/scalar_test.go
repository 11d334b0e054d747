package scalar

import (
	"math"
	"math/big"
	"reflect"
	"strconv"
	"strings"
	"testing"

	"wireschema/api"
)

const maxInt32, maxUint32 = math.MaxInt32, math.MaxUint32

// kinds are the scalar kinds.
var kinds = []int{api.KBool, api.KI32, api.KI64, api.KU32, api.KU64, api.KDouble, api.KText, api.KBytes, api.KEnum}

// integers are the scalar kinds whose text is a number in decimal.
var integers = []int{api.KI32, api.KI64, api.KU32, api.KU64, api.KEnum}

// others are kinds that are no scalar kinds.
var others = []int{math.MinInt, -1, 0, api.KMessage, api.KList, api.KMap, api.KMap + 1, 257, math.MaxInt}

// edges are bits at the ends of the ranges of the integer kinds.
var edges = []uint64{
	0, 1, 2, 3, 42, maxInt32 - 1, maxInt32, maxInt32 + 1, maxInt32 + 2, maxUint32 - 1, maxUint32, maxUint32 + 1, maxUint32 + 2, 1<<32 + 1<<31, 1<<33 - 1,
	math.MaxInt64 - 1, math.MaxInt64, math.MaxInt64 + 1, math.MaxInt64 + 2, minus(maxUint32 + 1), minus(maxUint32), minus(maxInt32 + 3), minus(maxInt32 + 2), minus(maxInt32 + 1), minus(maxInt32), minus(2), minus(1),
}

// doubles are numbers in ascending order, but for the NaN at the end, which are all equal.
var doubles = []uint64{
	0xfff0000000000000,                                         // -inf
	0xffefffffffffffff, 0xbff0000000000001, 0xbff0000000000000, // negative numbers
	0x8010000000000001, 0x8010000000000000, 0x800fffffffffffff, 0x8000000000000002, 0x8000000000000001,
	0x8000000000000000, 0, // -0 and 0
	1, 2, 0x000fffffffffffff, 0x0010000000000000, 0x0010000000000001,
	0x3fefffffffffffff, 0x3ff0000000000000, 0x3ff0000000000001, 0x4000000000000000, 0x7fefffffffffffff,
	0x7ff0000000000000, // inf
	0x7ff8000000000000, 0x7ff0000000000001, 0x7ff7ffffffffffff, 0x7ff8000000000001, 0x7fffffffffffffff, 0xfff0000000000001, 0xfff8000000000000, 0xffffffffffffffff,
}

// texts are in ascending order.
var texts = []string{"", "\x00", "\x00\x00", "\n", "\"", "0", "A", "Z", "\\", "a", "a\x00", "aa", "aé", "b", "x", "\x7f", "\x80", "\xc3", "\xc3\xa9", "é\xff", "€", "\xed\xa0\x80", "\uFFFD", "\U0001f600", "\xff"}

// minus returns the two's complement of -u.
func minus(u uint64) uint64 {
	return ^u + 1
}

func bits(kind int, u uint64) api.Value {
	return api.Value{Kind: kind, Bits: u}
}

func text(kind int, s string) api.Value {
	return api.Value{Kind: kind, Text: s}
}

func usesText(kind int) bool {
	return kind == api.KText || kind == api.KBytes
}

func isNaN(v api.Value) bool {
	return v.Kind == api.KDouble && math.IsNaN(math.Float64frombits(v.Bits))
}

// samples returns values of all scalar kinds, those that do not fit among them.
func samples() []api.Value {
	var l []api.Value
	for _, kind := range kinds {
		for _, u := range append(append([]uint64{}, edges...), doubles...) {
			if !usesText(kind) {
				l = append(l, bits(kind, u))
			}
		}
		for _, s := range texts {
			if usesText(kind) {
				l = append(l, text(kind, s))
			}
		}
	}
	return l
}

// filled returns v with further contents, each time in one field that no scalar uses.
func filled(v api.Value) []api.Value {
	l := []api.Value{v, v, v, v}
	l[0].List = []api.Value{{}}
	l[1].Pairs = []api.Pair{{}}
	l[2].Slots = []api.Slot{{}}
	l[3].Raws = []api.Raw{{}}
	return l
}

// emptied returns v with slices that are empty, but not nil.
func emptied(v api.Value) api.Value {
	v.List, v.Pairs, v.Slots, v.Raws = []api.Value{}, []api.Pair{}, []api.Slot{}, []api.Raw{}
	return v
}

// ends returns the least and the greatest number of an integer kind.
func ends(kind int) (*big.Int, *big.Int) {
	power := func(n uint) *big.Int { return new(big.Int).Lsh(big.NewInt(1), n) }
	below := func(n uint) *big.Int { return power(n).Sub(power(n), big.NewInt(1)) }
	switch kind {
	case api.KI32:
		return power(31).Neg(power(31)), below(31)
	case api.KI64:
		return power(63).Neg(power(63)), below(63)
	case api.KU32:
		return big.NewInt(0), below(32)
	case api.KU64:
		return big.NewInt(0), below(64)
	case api.KEnum:
		return big.NewInt(0), below(31)
	}
	return big.NewInt(0), big.NewInt(1)
}

// within reports whether an integer kind has the number n.
func within(kind int, n *big.Int) bool {
	least, greatest := ends(kind)
	return least.Cmp(n) <= 0 && n.Cmp(greatest) <= 0
}

// numberOf returns by the definition the number of a value of a kind.
func numberOf(kind int, u uint64) *big.Int {
	if kind == api.KI32 || kind == api.KI64 {
		return big.NewInt(int64(u))
	}
	return new(big.Int).SetUint64(u)
}

// class returns the class of a double by the floating-point number that it is.
func class(u uint64) int {
	f := math.Abs(math.Float64frombits(u))
	switch {
	case f != f:
		return 0
	case f > math.MaxFloat64:
		return 1
	case f == 0:
		return 2
	case f < 0x1p-1022:
		return 3
	}
	return 4
}

func expectFits(t *testing.T, kind int, v api.Value, want bool) {
	t.Helper()
	if got := Fits(kind, v); got != want {
		t.Errorf("Fits(%d, %+v) is %v", kind, v, got)
	}
}

func expectText(t *testing.T, v api.Value, want string) {
	t.Helper()
	if got := Text(v); got != want {
		t.Errorf("Text(%+v) = %q, expected %q", v, got, want)
	}
}

func expectParse(t *testing.T, kind int, s string, v api.Value, e api.Errno) {
	t.Helper()
	if got, gotE := Parse(kind, s); gotE != e || !reflect.DeepEqual(got, v) {
		t.Errorf("Parse(%d, %.100q) = %+v, %v; expected %+v, %v", kind, s, got, gotE, v, e)
	}
}

func expectError(t *testing.T, kind int, e api.Errno, l ...string) {
	t.Helper()
	for _, s := range l {
		expectParse(t, kind, s, api.Value{}, e)
	}
}

func expectCmp(t *testing.T, a, b api.Value, want int) {
	t.Helper()
	if got := Cmp(a, b); got != want {
		t.Errorf("Cmp(%+v, %+v) = %d, expected %d", a, b, got, want)
	}
}

// P4.1: the scalar kinds are 1 to 9.
func TestIs(t *testing.T) {
	for kind := 1; kind <= 9; kind++ {
		if !Is(kind) {
			t.Errorf("Is(%d) is false", kind)
		}
	}
	for _, kind := range others {
		if Is(kind) {
			t.Errorf("Is(%d) is true", kind)
		}
	}
}

// P4.1: the zero value of a kind, and none of other kinds.
func TestZero(t *testing.T) {
	for _, kind := range kinds {
		if got := Zero(kind); !reflect.DeepEqual(got, api.Value{Kind: kind}) {
			t.Errorf("Zero(%d) = %+v", kind, got)
		}
	}
	for _, kind := range others {
		if got := Zero(kind); !reflect.DeepEqual(got, api.Value{}) {
			t.Errorf("Zero(%d) = %+v", kind, got)
		}
	}
}

// P4.1: a value is zero if it is so in all fields.
func TestIsZero(t *testing.T) {
	for _, kind := range kinds {
		zero := api.Value{Kind: kind}
		if !IsZero(zero) || !IsZero(emptied(zero)) {
			t.Errorf("IsZero(%+v) is false", zero)
		}
		for _, v := range append(filled(zero), bits(kind, 1), bits(kind, 1<<63), text(kind, "a"), text(kind, "\x00")) {
			if IsZero(v) {
				t.Errorf("IsZero(%+v) is true", v)
			}
		}
	}
	for _, kind := range others {
		if IsZero(api.Value{Kind: kind}) {
			t.Errorf("IsZero of the kind %d is true", kind)
		}
	}
}

// P4.1: the double -0 is not zero, although its number equals 0.
func TestNegativeZero(t *testing.T) {
	if IsZero(bits(api.KDouble, math.Float64bits(math.Copysign(0, -1)))) {
		t.Error("-0 is zero")
	}
}

// P4.1: Int returns the number of integers, enums and bools, wrapped, whether they fit or not.
func TestInt(t *testing.T) {
	for _, kind := range append([]int{api.KBool}, integers...) {
		for _, u := range edges {
			v := bits(kind, u)
			v.Text = "1"
			for _, v := range append(filled(v), v, bits(kind, u)) {
				if got := Int(v); got != int(u) {
					t.Errorf("Int(%+v) = %d", v, got)
				}
			}
		}
	}
	for _, c := range []struct {
		v api.Value
		n int
	}{{bits(api.KI32, minus(1)), -1}, {bits(api.KU64, math.MaxUint64), -1}, {bits(api.KU64, 1<<63), math.MinInt}, {bits(api.KBool, 7), 7}, {bits(api.KEnum, 1<<40), 1 << 40}} {
		if got := Int(c.v); got != c.n {
			t.Errorf("Int(%+v) = %d, expected %d", c.v, got, c.n)
		}
	}
}

// P4.1: Int returns 0 for all other kinds.
func TestIntOthers(t *testing.T) {
	for _, kind := range append([]int{api.KDouble, api.KText, api.KBytes}, others...) {
		v := bits(kind, 5)
		v.Text = "5"
		if got := Int(v); got != 0 {
			t.Errorf("Int(%+v) = %d", v, got)
		}
	}
}

// P4.2: the ends of the range of each kind.
func TestFitsEnds(t *testing.T) {
	for _, c := range []struct {
		kind      int
		good, bad []uint64
	}{
		{api.KBool, []uint64{0, 1}, []uint64{2, 3, 256, 1 << 32, 1 << 63, math.MaxUint64}},
		{api.KI32, []uint64{0, 1, maxInt32, minus(1), minus(maxInt32), minus(maxInt32 + 1)}, []uint64{maxInt32 + 1, maxUint32, 1 << 32, 1 << 63, minus(maxInt32 + 2), minus(1 << 32)}},
		{api.KI64, []uint64{0, maxInt32 + 1, math.MaxInt64, 1 << 63, math.MaxUint64}, nil},
		{api.KU32, []uint64{0, 1, maxInt32 + 1, maxUint32}, []uint64{1 << 32, 1<<32 + 1, 1 << 63, math.MaxUint64}},
		{api.KU64, []uint64{0, 1, 1 << 32, 1 << 63, math.MaxUint64}, nil},
		{api.KDouble, doubles, nil},
		{api.KEnum, []uint64{0, 1, maxInt32}, []uint64{maxInt32 + 1, maxUint32, 1 << 32, 1 << 63, math.MaxUint64}},
	} {
		for _, u := range c.good {
			expectFits(t, c.kind, bits(c.kind, u), true)
			expectFits(t, c.kind, emptied(bits(c.kind, u)), true)
		}
		for _, u := range c.bad {
			expectFits(t, c.kind, bits(c.kind, u), false)
		}
	}
}

// P4.2: the ranges by the numbers of the values.
func TestFitsRanges(t *testing.T) {
	for _, kind := range append([]int{api.KBool}, integers...) {
		for _, u := range edges {
			expectFits(t, kind, bits(kind, u), within(kind, numberOf(kind, u)))
		}
	}
}

// P4.2: texts are valid UTF-8, bytes need not be, and neither is longer than the limit.
func TestFitsTexts(t *testing.T) {
	full := strings.Repeat("a", api.MaxText)
	for _, c := range []struct {
		s           string
		text, bytes bool
	}{
		{"", true, true},
		{"é€\U0001f600\uFFFD\x00", true, true},
		{"\xff", false, true},
		{"a\x80", false, true},
		{"\xed\xa0\x80", false, true},
		{"\xc0\x80", false, true},
		{full, true, true},
		{full[1:] + "\xff", false, true},
		{full + "a", false, false},
		{full + "\xff", false, false},
		{strings.Repeat("é", api.MaxText/2), true, true},
		{strings.Repeat("é", api.MaxText/2+1), false, false}, // bytes are counted
		{strings.Repeat("€", api.MaxText/3) + "a", true, true},
	} {
		expectFits(t, api.KText, text(api.KText, c.s), c.text)
		expectFits(t, api.KBytes, text(api.KBytes, c.s), c.bytes)
	}
}

// P4.2: fields that a kind does not use are empty.
func TestFitsOtherFields(t *testing.T) {
	for _, kind := range kinds {
		zero := api.Value{Kind: kind}
		expectFits(t, kind, zero, true)
		expectFits(t, kind, emptied(zero), true)
		for _, v := range filled(zero) {
			expectFits(t, kind, v, false)
		}
		expectFits(t, kind, bits(kind, 1), !usesText(kind))
		expectFits(t, kind, text(kind, "a"), usesText(kind))
		both := bits(kind, 1)
		both.Text = "a"
		expectFits(t, kind, both, false)
	}
}

// P4.2: a value has the kind, and this is a scalar kind.
func TestFitsKinds(t *testing.T) {
	all := append(append([]int{}, kinds...), others...)
	for _, a := range all {
		for _, b := range all {
			expectFits(t, a, api.Value{Kind: b}, a == b && a >= api.KBool && a <= api.KEnum)
		}
	}
}

// P4.3: the classes, at their ends.
func TestClassEnds(t *testing.T) {
	for _, c := range []struct {
		bits  uint64
		class int
	}{
		{0, 2}, {1 << 63, 2},
		{1, 3}, {0x000fffffffffffff, 3}, {0x8000000000000001, 3}, {0x800fffffffffffff, 3}, {0x0008000000000000, 3},
		{0x0010000000000000, 4}, {0x3ff0000000000000, 4}, {0x7fe0000000000000, 4}, {0x7fefffffffffffff, 4}, {0x8010000000000000, 4}, {0xffefffffffffffff, 4},
		{0x7ff0000000000000, 1}, {0xfff0000000000000, 1},
		{0x7ff0000000000001, 0}, {0x7ff8000000000000, 0}, {0x7fffffffffffffff, 0}, {0xfff0000000000001, 0}, {0xfff8000000000000, 0}, {0xffffffffffffffff, 0},
	} {
		if got := Class(c.bits); got != c.class {
			t.Errorf("Class(%#x) = %d, expected %d", c.bits, got, c.class)
		}
	}
}

// P4.3: the class depends on each single bit as the floating-point number does.
func TestClassBits(t *testing.T) {
	for _, u := range doubles {
		for i := range 64 {
			for j := range 64 {
				u := u ^ 1<<i ^ 1<<j
				if got := Class(u); got != class(u) {
					t.Errorf("Class(%#x) = %d, expected %d", u, got, class(u))
				}
			}
		}
	}
}

// P4.3: Norm changes the bits of NaN, and nothing else of a double.
func TestNormDoubles(t *testing.T) {
	for _, u := range doubles {
		want := bits(api.KDouble, u)
		if isNaN(want) {
			want.Bits = 0x7ff8000000000000
		}
		if got := Norm(bits(api.KDouble, u)); !reflect.DeepEqual(got, want) {
			t.Errorf("Norm of the double %#x = %+v", u, got)
		}
	}
	for i := range 52 {
		for _, sign := range []uint64{0, 1 << 63} {
			if got := Norm(bits(api.KDouble, sign|0x7ff<<52|1<<i)); got.Bits != 0x7ff8000000000000 {
				t.Errorf("the NaN with the bit %d becomes %#x", i, got.Bits)
			}
		}
	}
}

// P4.3: Norm returns values of other kinds as they are, also if their bits would be those of NaN, and those inside of a value.
func TestNormOthers(t *testing.T) {
	l := append(samples(), api.Value{})
	for _, kind := range append(append([]int{}, kinds...), others...) {
		v := bits(kind, 0x7ff8000000000001)
		v.Text = "a\xff"
		l = append(l, v)
		l = append(l, filled(v)...)
		l = append(l, nested(kind))
	}
	for _, v := range l {
		want := v
		if isNaN(v) {
			want.Bits = 0x7ff8000000000000
		}
		if got := Norm(v); !reflect.DeepEqual(got, want) {
			t.Errorf("Norm(%+v) = %+v", v, got)
		}
	}
}

// nested returns a value of kind with other values in it, each with a NaN that is not in normal form.
func nested(kind int) api.Value {
	inner := api.Value{Kind: api.KList, List: []api.Value{bits(api.KDouble, math.MaxUint64)}}
	return api.Value{
		Kind: kind, Bits: 3, Text: "t",
		List:  []api.Value{inner, bits(api.KDouble, math.MaxUint64)},
		Pairs: []api.Pair{{Key: nestedOnce(inner), Val: inner}},
		Slots: []api.Slot{{Num: 1, Val: inner}},
		Raws:  []api.Raw{{Num: 1, Wire: 2, Bits: 3, Data: "d"}},
	}
}

// nestedOnce returns a message with a copy of v in it.
func nestedOnce(v api.Value) api.Value {
	v.List = append([]api.Value{}, v.List...)
	return api.Value{Kind: api.KMessage, Slots: []api.Slot{{Num: 2, Val: v}}}
}

// 0.4: Norm neither changes its argument nor shares memory with it, at any level.
func TestNormMemory(t *testing.T) {
	v := nested(api.KMessage)
	got := Norm(v)
	got.List[0].List[0].Bits = 1
	got.List[1].Bits = 1
	got.Pairs[0].Key.Slots[0].Val.List[0].Bits = 1
	got.Pairs[0].Val.List[0].Bits = 1
	got.Pairs[0].Key.Kind = 1
	got.Slots[0].Val.List[0].Bits = 1
	got.Slots[0].Num = 5
	got.Raws[0].Num = 5
	if !reflect.DeepEqual(v, nested(api.KMessage)) {
		t.Errorf("the argument has become %+v", v)
	}
	// The argument has the same list in several places; the result has not.
	inner := bits(api.KU32, 1)
	list := []api.Value{inner}
	shared := Norm(api.Value{Kind: api.KList, List: []api.Value{{Kind: api.KList, List: list}, {Kind: api.KList, List: list}}})
	shared.List[0].List[0].Bits = 2
	if shared.List[1].List[0].Bits != 1 {
		t.Error("two lists of the result share memory")
	}
}

// P4.4: examples.
func TestTextExamples(t *testing.T) {
	for _, c := range []struct {
		v api.Value
		s string
	}{
		{bits(api.KBool, 0), "false"},
		{bits(api.KBool, 1), "true"},
		{bits(api.KBool, 2), ""},
		{bits(api.KI32, minus(1)), "-1"},
		{bits(api.KI32, maxInt32), "2147483647"},
		{bits(api.KI32, minus(maxInt32+1)), "-2147483648"},
		{bits(api.KI32, maxUint32), ""},
		{bits(api.KI64, 0), "0"},
		{bits(api.KI64, 1<<63), "-9223372036854775808"},
		{bits(api.KI64, math.MaxInt64), "9223372036854775807"},
		{bits(api.KU32, minus(1)), ""},
		{bits(api.KU32, maxUint32), "4294967295"},
		{bits(api.KU64, minus(1)), "18446744073709551615"},
		{bits(api.KU64, 1<<63), "9223372036854775808"},
		{bits(api.KEnum, 10), "10"},
		{bits(api.KEnum, maxInt32), "2147483647"},
		{bits(api.KEnum, maxInt32+1), ""},
		{bits(api.KDouble, math.Float64bits(1)), "0x3ff0000000000000"},
		{bits(api.KDouble, 0), "0x0000000000000000"},
		{bits(api.KDouble, 1<<63), "0x8000000000000000"},
		{bits(api.KDouble, 0xab), "0x00000000000000ab"},
		{bits(api.KDouble, 0x7fefffffffffffff), "0x7fefffffffffffff"},
		{bits(api.KDouble, 0x7ff<<52), "inf"},
		{bits(api.KDouble, 0xfff<<52), "-inf"},
		{bits(api.KDouble, 0x7ff8000000000000), "nan"},
		{bits(api.KDouble, 0xfff0000000000001), "nan"},
		{text(api.KText, ""), `""`},
		{text(api.KText, "a\"\n\x00é"), `"a\"\n\x00é"`},
		{text(api.KText, "\x80"), ""},
		{text(api.KBytes, ""), `x""`},
		{text(api.KBytes, "ab"), `x"6162"`},
		{text(api.KBytes, "\xff\x00\xab"), `x"ff00ab"`},
	} {
		expectText(t, c.v, c.s)
		for _, v := range filled(c.v) {
			expectText(t, v, "")
		}
	}
}

// P4.4: the decimal text of all integers at the ends of the ranges, and none of what does not fit.
func TestTextIntegers(t *testing.T) {
	for _, kind := range integers {
		for _, u := range edges {
			if n := numberOf(kind, u); within(kind, n) {
				expectText(t, bits(kind, u), n.String())
			} else {
				expectText(t, bits(kind, u), "")
			}
		}
	}
}

// P4.4: what does not fit its own kind has no text.
func TestTextOfWhatDoesNotFit(t *testing.T) {
	for _, kind := range others {
		expectText(t, bits(kind, 1), "")
		expectText(t, text(kind, "a"), "")
		expectText(t, bits(kind, 0), "")
	}
	for _, kind := range kinds {
		v := bits(kind, 1)
		v.Text = "a"
		expectText(t, v, "")
	}
	long := strings.Repeat("a", api.MaxText)
	expectText(t, text(api.KText, long), `"`+long+`"`)
	expectText(t, text(api.KText, long+"a"), "")
	expectText(t, text(api.KBytes, long), `x"`+strings.Repeat("61", api.MaxText)+`"`)
	expectText(t, text(api.KBytes, long+"a"), "")
}

// P4.5: kinds that are no scalar kinds.
func TestParseKinds(t *testing.T) {
	for _, kind := range others {
		expectError(t, kind, api.ErrArg, "", "0", "true", `""`, "nan", "a")
	}
}

// P4.5: bools.
func TestParseBool(t *testing.T) {
	expectParse(t, api.KBool, "false", bits(api.KBool, 0), api.OK)
	expectParse(t, api.KBool, "true", bits(api.KBool, 1), api.OK)
	expectError(t, api.KBool, api.ErrSyntax, "", "0", "1", "True", "FALSE", "t", "true ", " true", "truefalse", `"true"`, "true\x00")
}

// P4.5: the examples of the chapter.
func TestParseExamples(t *testing.T) {
	expectError(t, api.KU32, api.ErrRange, "4294967296", "-1", strings.Repeat("1", 30))
	expectError(t, api.KU32, api.ErrSyntax, "+1", "01", "-0", "")
	expectError(t, api.KDouble, api.ErrSyntax, "0x7ff0000000000000")
	expectError(t, api.KText, api.ErrUtf, `"\x80"`)
}

// P4.5: numbers around the ends of the ranges of all kinds, and of 64 bits.
func TestParseEnds(t *testing.T) {
	for _, kind := range integers {
		for _, n := range []uint{0, 1, 8, 30, 31, 32, 33, 62, 63, 64, 65, 66, 128, 200} {
			for _, sign := range []int64{1, -1} {
				for d := int64(-3); d <= 3; d++ {
					x := new(big.Int).Lsh(big.NewInt(sign), n)
					x.Add(x, big.NewInt(d))
					if !within(kind, x) {
						expectError(t, kind, api.ErrRange, x.String())
						continue
					}
					u := new(big.Int).And(x, new(big.Int).SetUint64(math.MaxUint64))
					expectParse(t, kind, x.String(), bits(kind, u.Uint64()), api.OK)
				}
			}
		}
	}
}

// P4.5: numbers of any length are in the right form, but out of range.
func TestParseLongNumbers(t *testing.T) {
	for _, kind := range integers {
		for n := 20; n < 3000; n += 50 {
			s := "1" + strings.Repeat("0", n)
			expectError(t, kind, api.ErrRange, s, "-"+s, strings.Repeat("9", n), "-"+strings.Repeat("9", n))
			expectError(t, kind, api.ErrSyntax, "0"+s, "-0"+s, s+" ", s+"a", s+"-", "+"+s, "--"+s, s+"\xff")
		}
	}
}

// P4.5: of all short strings just those are numbers that the numbers have as their texts.
func TestParseShortNumbers(t *testing.T) {
	words := []string{""}
	for _, s := range words {
		expectShortNumber(t, s)
	}
	for range 4 {
		var longer []string
		for _, s := range words {
			for _, c := range "-+019ax_. e\x00" {
				longer = append(longer, s+string(c))
			}
		}
		words = longer
		for _, s := range words {
			expectShortNumber(t, s)
		}
	}
}

// expectShortNumber checks what Parse returns for a string of at most four bytes.
func expectShortNumber(t *testing.T, s string) {
	t.Helper()
	n, err := strconv.Atoi(s)
	for _, kind := range integers {
		switch {
		case err != nil || strconv.Itoa(n) != s:
			expectError(t, kind, api.ErrSyntax, s)
		case n < 0 && kind != api.KI32 && kind != api.KI64:
			expectError(t, kind, api.ErrRange, s)
		default:
			expectParse(t, kind, s, bits(kind, uint64(n)), api.OK)
		}
	}
}

// P4.5: strings that are no numbers.
func TestParseNumberErrors(t *testing.T) {
	for _, kind := range integers {
		expectError(t, kind, api.ErrSyntax, "-", "+0", "00", "-00", "0x1", "1e3", "1.0", "1,000", "1_000", " 1", "1 ", "1\n", "１", "٣", "1\x00", "\xff", "true", `"1"`, "#1", "0b1", "-01", "--1", "1-", "/", ":", "-:", "1/2")
	}
}

// P4.5: doubles.
func TestParseDouble(t *testing.T) {
	expectParse(t, api.KDouble, "nan", bits(api.KDouble, 0x7ff8000000000000), api.OK)
	expectParse(t, api.KDouble, "inf", bits(api.KDouble, 0x7ff0000000000000), api.OK)
	expectParse(t, api.KDouble, "-inf", bits(api.KDouble, 0xfff0000000000000), api.OK)
	expectParse(t, api.KDouble, "0x0123456789abcdef", bits(api.KDouble, 0x0123456789abcdef), api.OK)
	expectParse(t, api.KDouble, "0xfedcba9876543210", bits(api.KDouble, 0xfedcba9876543210), api.OK)
	for _, u := range doubles {
		s := "0x" + strings.Repeat("0", 16-len(strconv.FormatUint(u, 16))) + strconv.FormatUint(u, 16)
		if class(u) < 2 {
			expectError(t, api.KDouble, api.ErrSyntax, s)
		} else {
			expectParse(t, api.KDouble, s, bits(api.KDouble, u), api.OK)
		}
	}
	const good = "3ff0000000000000"
	expectError(t, api.KDouble, api.ErrSyntax,
		"", "0", "1", "1.0", "1e9", "NaN", "Inf", "+inf", "-nan", "infinity", "nan ", " inf", "inf0", "--inf",
		good, "0x", "0X"+good, "x"+good, "0x"+good[1:], "0x"+good+"0", "0x"+good+"00", "0x"+good+good, "0x"+good+" ", " 0x"+good, "-0x"+good, "0x0x"+good[2:], "0x"+good[:14],
		"0x3FF0000000000000", "0x3ff000000000000g", "0x3ff000000000000A", "0x3ff000000000000/", "0x3ff000000000000:", "0x-ff0000000000000", "0x+ff0000000000000", "0x3ff_000000000000", "00"+good, "0y"+good, good+"0x")
}

// P4.5: texts.
func TestParseText(t *testing.T) {
	for _, c := range [][2]string{{`""`, ""}, {`"a"`, "a"}, {`"é€"`, "é€"}, {`"a\"\\\n\t\r\x00\x7f"`, "a\"\\\n\t\r\x00\x7f"}, {"\"\uFFFD\"", "\uFFFD"}} {
		expectParse(t, api.KText, c[0], text(api.KText, c[1]), api.OK)
	}
	expectError(t, api.KText, api.ErrSyntax, "", "a", `"`, `"a`, `a"`, `"a" `, ` "a"`, `"a""b"`, `"a"b`, `"\x41"`, `"\xc3\xa9"`, "\"\n\"", "\"\xff\"", `x"61"`, `"\x80"a`, `"\X80"`, `'a'`)
	expectError(t, api.KText, api.ErrUtf, `"\xff"`, `"a\xc3"`, `"\xed\xa0\x80"`, `"é\x80"`)
}

// P4.5: bytes.
func TestParseBytes(t *testing.T) {
	for _, c := range [][2]string{{`x""`, ""}, {`x"6162"`, "ab"}, {`x"ff00"`, "\xff\x00"}, {`x"0123456789abcdef"`, "\x01\x23\x45\x67\x89\xab\xcd\xef"}} {
		expectParse(t, api.KBytes, c[0], text(api.KBytes, c[1]), api.OK)
	}
	expectError(t, api.KBytes, api.ErrSyntax, "", "x", "6162", `"6162"`, `x6162`, `x"6162`, `x"6162" `, ` x"6162"`, `x "6162"`, `X"6162"`, `xx"6162"`, `x"616"`, `x"6"`, `x"AB"`, `x"6g"`, `x"61 62"`, `x"\x61"`, `x"é"`, `x"\n1"`, `x"61"x"62"`, `x"61""62"`, `x"\"\""`)
}

// P4.5: lengths at the limit, and that the earlier errors come first.
func TestParseLengths(t *testing.T) {
	full := strings.Repeat("a", api.MaxText)
	expectParse(t, api.KText, `"`+full+`"`, text(api.KText, full), api.OK)
	expectError(t, api.KText, api.ErrLimit, `"`+full+`a"`, `"`+full+full+`"`, `"`+full[1:]+`é"`)
	expectParse(t, api.KText, `"`+full[2:]+`é"`, text(api.KText, full[2:]+"é"), api.OK)
	expectParse(t, api.KText, `"`+strings.Repeat(`\x00`, api.MaxText)+`"`, text(api.KText, strings.Repeat("\x00", api.MaxText)), api.OK)
	expectError(t, api.KText, api.ErrUtf, `"`+full+`\xff"`, `"\xff`+full+`"`, `"`+full[1:]+`\xff"`)
	expectError(t, api.KText, api.ErrSyntax, `"`+full+"a", `"`+full+`\xff" `, `"`+full+"\xff\"")

	hex := strings.Repeat("61", api.MaxText)
	expectParse(t, api.KBytes, `x"`+hex+`"`, text(api.KBytes, full), api.OK)
	expectError(t, api.KBytes, api.ErrLimit, `x"`+hex+`61"`, `x"`+hex+hex+`"`)
	expectError(t, api.KBytes, api.ErrSyntax, `x"`+hex+`6"`, `x"`+hex+`611"`, `x"`+hex+`6G"`, `x"`+hex+"61", `x"`+hex+`61" `)
}

// P4.6: kinds come first, whatever else the values have in them.
func TestCmpKinds(t *testing.T) {
	all := append(append([]int{}, kinds...), others...)
	for _, a := range all {
		for _, b := range all {
			v, w := bits(a, 9), bits(b, 1)
			v.Text, w.Text = "z", "a"
			if a < b {
				expectCmp(t, v, w, -1)
				expectCmp(t, w, v, 1)
			}
		}
	}
}

// P4.6: integers, enums and bools by their numbers, whether they fit or not.
func TestCmpIntegers(t *testing.T) {
	for _, kind := range append([]int{api.KBool}, integers...) {
		for _, a := range edges {
			for _, b := range edges {
				expectCmp(t, bits(kind, a), bits(kind, b), numberOf(kind, a).Cmp(numberOf(kind, b)))
			}
		}
	}
	expectCmp(t, bits(api.KI64, minus(1)), bits(api.KI64, 0), -1)
	expectCmp(t, bits(api.KI32, minus(1)), bits(api.KI32, 1<<40), -1)
	expectCmp(t, bits(api.KU64, minus(1)), bits(api.KU64, 0), 1)
	expectCmp(t, bits(api.KBool, 0), bits(api.KBool, 1), -1)
}

// P4.6: the order of the doubles.
func TestCmpDoubles(t *testing.T) {
	for i, a := range doubles {
		for j, b := range doubles {
			want := 0
			switch bothNaN := class(a) == 0 && class(b) == 0; {
			case i < j && !bothNaN:
				want = -1
			case i > j && !bothNaN:
				want = 1
			}
			expectCmp(t, bits(api.KDouble, a), bits(api.KDouble, b), want)
		}
	}
	negativeZero := bits(api.KDouble, math.Float64bits(math.Copysign(0, -1)))
	expectCmp(t, negativeZero, bits(api.KDouble, 0), -1)
	expectCmp(t, bits(api.KDouble, 0), bits(api.KDouble, math.Float64bits(math.NaN())), -1)
	expectCmp(t, bits(api.KDouble, 0xffffffffffffffff), bits(api.KDouble, 0x7ff0000000000001), 0)
}

// P4.6: texts and bytes byte by byte, also those that do not fit.
func TestCmpTexts(t *testing.T) {
	for _, kind := range []int{api.KText, api.KBytes} {
		for i, a := range texts {
			for j, b := range texts {
				want := 0
				if i != j {
					want = (i - j) / max(i-j, j-i)
				}
				expectCmp(t, text(kind, a), text(kind, b), want)
			}
		}
		long := strings.Repeat("a", 2*api.MaxText)
		expectCmp(t, text(kind, long), text(kind, long+"a"), -1)
		expectCmp(t, text(kind, long+"b"), text(kind, long+"a"), 1)
	}
}

// P4.6: fields that a kind does not use are not examined, and kinds that are no scalar kinds use none.
func TestCmpOtherFields(t *testing.T) {
	for _, kind := range kinds {
		v := api.Value{Kind: kind}
		for _, w := range append(filled(v), emptied(v)) {
			expectCmp(t, v, w, 0)
			expectCmp(t, w, v, 0)
		}
		used, unused := bits(kind, 1), text(kind, "a")
		if usesText(kind) {
			used, unused = unused, used
		}
		expectCmp(t, v, used, -1)
		expectCmp(t, used, v, 1)
		expectCmp(t, v, unused, 0)
		expectCmp(t, unused, v, 0)
	}
	for _, kind := range others {
		v, w := bits(kind, 9), text(kind, "a")
		expectCmp(t, v, w, 0)
		expectCmp(t, w, v, 0)
		expectCmp(t, nested(kind), v, 0)
	}
}

// P4.7: Parse inverts Text for what is in normal form, and all that has a text is parsed as its normal form.
func TestTextInverse(t *testing.T) {
	for _, v := range samples() {
		s := Text(v)
		if !Fits(v.Kind, v) {
			expectText(t, v, "")
			continue
		}
		expectParse(t, v.Kind, s, Norm(v), api.OK)
	}
}

// P4.7: what Parse returns fits, is in normal form, and has the text that was parsed; each byte of texts is changed in turn.
func TestParseInverse(t *testing.T) {
	for _, v := range samples() {
		s := Text(v)
		for i := range len(s) {
			for _, c := range []byte("\x00\n\"-+/019:AFafgnxz\\\x7f\x80\xa9\xc3\xff") {
				expectParsed(t, v.Kind, s[:i]+string([]byte{c})+s[i+1:])
				expectParsed(t, v.Kind, s[:i]+string([]byte{c})+s[i:])
			}
			expectParsed(t, v.Kind, s[:i]+s[i+1:])
		}
	}
}

// expectParsed checks what Parse returns for any string.
func expectParsed(t *testing.T, kind int, s string) {
	t.Helper()
	v, e := Parse(kind, s)
	if e != api.OK {
		if !reflect.DeepEqual(v, api.Value{}) {
			t.Errorf("Parse(%d, %q) = %+v, %v", kind, s, v, e)
		}
		return
	}
	if !Fits(kind, v) || !reflect.DeepEqual(Norm(v), v) || Text(v) != s {
		t.Errorf("Parse(%d, %q) = %+v, whose text is %q", kind, s, v, Text(v))
	}
}

// P4.8: Cmp is antisymmetric, finds just the identical ones of the values in normal form equal, and does not see Norm.
func TestOrder(t *testing.T) {
	l := samples()
	for _, a := range l {
		for _, b := range l {
			c := Cmp(a, b)
			expectCmp(t, b, a, -c)
			expectCmp(t, Norm(a), b, c)
			expectCmp(t, Norm(a), Norm(b), c)
			if Fits(a.Kind, a) && Fits(b.Kind, b) && (c == 0) != reflect.DeepEqual(Norm(a), Norm(b)) {
				t.Errorf("Cmp(%+v, %+v) = %d", a, b, c)
			}
		}
	}
}

// P4.8: Cmp is transitive.
func TestTransitive(t *testing.T) {
	for _, kind := range kinds {
		var l []api.Value
		for _, v := range samples() {
			if v.Kind == kind {
				l = append(l, v)
			}
		}
		for _, a := range l {
			for _, b := range l {
				if Cmp(a, b) > 0 {
					continue
				}
				for _, c := range l {
					if Cmp(b, c) <= 0 && (Cmp(a, c) > 0 || Cmp(a, c) == 0 && Cmp(a, b)+Cmp(b, c) != 0) {
						t.Errorf("Cmp is not transitive: %+v, %+v, %+v", a, b, c)
					}
				}
			}
		}
	}
}

// The time grows with the length only: strings of a megabyte are examined in no noticeable time.
func TestLong(t *testing.T) {
	long := strings.Repeat("1", 1<<20)
	for _, kind := range integers {
		expectError(t, kind, api.ErrRange, long, "-"+long)
	}
	expectError(t, api.KBool, api.ErrSyntax, long)
	expectError(t, api.KDouble, api.ErrSyntax, "0x"+long)
	expectError(t, api.KText, api.ErrLimit, `"`+long+`"`)
	expectError(t, api.KBytes, api.ErrLimit, `x"`+long+`"`)
	expectFits(t, api.KBytes, text(api.KBytes, long), false)
}

// 0.1, 0.3: nothing makes a function panic, and the functions agree with each other.
func FuzzScalar(f *testing.F) {
	for _, kind := range append(append([]int{}, kinds...), others...) {
		f.Add(kind, uint64(1), "true")
		f.Add(kind, uint64(math.MaxUint64), "-1")
		f.Add(kind, uint64(0x7ff0000000000001), `"a\xff"`)
		f.Add(kind, uint64(1)<<63, `x"00ff"`)
		f.Add(kind, uint64(1)<<32, "0x3ff0000000000000")
	}
	f.Fuzz(func(t *testing.T, kind int, u uint64, s string) {
		expectParsed(t, kind, s)
		for _, v := range []api.Value{bits(kind, u), text(kind, s), {Kind: kind, Bits: u, Text: s}} {
			if Fits(kind, v) {
				expectParse(t, kind, Text(v), Norm(v), api.OK)
			} else {
				expectText(t, v, "")
			}
			expectCmp(t, v, Norm(v), 0)
			for _, w := range append(filled(v), Zero(kind)) {
				expectCmp(t, v, w, -Cmp(w, v))
				if Fits(kind, w) && w.Kind != kind {
					t.Errorf("Fits(%d, %+v)", kind, w)
				}
			}
			if IsZero(v) != (Is(kind) && v.Bits == 0 && v.Text == "") {
				t.Errorf("IsZero(%+v) is %v", v, IsZero(v))
			}
			Int(v)
		}
		if Class(u) != class(u) {
			t.Errorf("Class(%#x) = %d", u, Class(u))
		}
	})
}
