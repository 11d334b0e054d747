package cursor

import (
	"math"
	"strings"
	"testing"

	"wireschema/api"
	"wireschema/varint"
)

var high = strings.Repeat("\xff", 9)

// numbers are those around the ends of the test data, and the extremes, where sums and differences overflow.
var numbers = []int{math.MinInt, -1, 0, 1, 2, 3, 4, math.MaxInt}

// edges are limits: negative ones, those that are almost used up, and extremes.
var edges = []int{math.MinInt, -1, 0, 1, 2, math.MaxInt}

// at returns a cursor with limits that do not get in the way, and that differ from each other.
func at(data string, at, end int) api.Cursor {
	return api.Cursor{Data: data, At: at, End: end, Depth: 11, Nodes: 22, Text: 33}
}

// cursors calls f with cursors of all sorts, those that are not sound among them.
func cursors(f func(api.Cursor)) {
	for _, data := range []string{"", "\x05ab", "\x80\x01", "12345678\xff"} {
		for _, at := range append(numbers, 8, 9, 10) {
			for _, end := range append(numbers, 8, 9, 10) {
				for _, depth := range edges {
					f(api.Cursor{Data: data, At: at, End: end, Depth: depth, Nodes: 2, Text: 1})
				}
				for _, nodes := range edges {
					f(api.Cursor{Data: data, At: at, End: end, Depth: 1, Nodes: nodes, Text: 2})
				}
				for _, text := range edges {
					f(api.Cursor{Data: data, At: at, End: end, Depth: 2, Nodes: 1, Text: text})
				}
			}
		}
	}
}

// fits reports by the definition whether c is sound.
func fits(c api.Cursor) bool {
	return !(c.At < 0 || c.End < c.At || len(c.Data) < c.End)
}

// remain returns by the definition the bytes that are left of c.
func remain(c api.Cursor) string {
	if !fits(c) {
		return ""
	}
	return c.Data[c.At:c.End]
}

// moved returns c with At n further on.
func moved(c api.Cursor, n int) api.Cursor {
	c.At += n
	return c
}

func expectByte(t *testing.T, c api.Cursor, b byte, after api.Cursor, e api.Errno) {
	t.Helper()
	if gotB, got, gotE := Byte(c); gotB != b || got != after || gotE != e {
		t.Errorf("Byte(%+v) = %d, %+v, %v; expected %d, %+v, %v", c, gotB, got, gotE, b, after, e)
	}
}

func expectVarint(t *testing.T, c api.Cursor, u uint64, after api.Cursor, e api.Errno) {
	t.Helper()
	if gotU, got, gotE := Varint(c); gotU != u || got != after || gotE != e {
		t.Errorf("Varint(%+v) = %d, %+v, %v; expected %d, %+v, %v", c, gotU, got, gotE, u, after, e)
	}
}

func expectFixed(t *testing.T, c api.Cursor, u uint64, after api.Cursor, e api.Errno) {
	t.Helper()
	if gotU, got, gotE := Fixed(c); gotU != u || got != after || gotE != e {
		t.Errorf("Fixed(%+v) = %d, %+v, %v; expected %d, %+v, %v", c, gotU, got, gotE, u, after, e)
	}
}

func expectText(t *testing.T, c api.Cursor, n int, s string, after api.Cursor, e api.Errno) {
	t.Helper()
	if gotS, got, gotE := Text(c, n); gotS != s || got != after || gotE != e {
		t.Errorf("Text(%+v, %d) = %q, %+v, %v; expected %q, %+v, %v", c, n, gotS, got, gotE, s, after, e)
	}
}

func expectSpend(t *testing.T, c api.Cursor, n int, after api.Cursor, e api.Errno) {
	t.Helper()
	if got, gotE := Spend(c, n); got != after || gotE != e {
		t.Errorf("Spend(%+v, %d) = %+v, %v; expected %+v, %v", c, n, got, gotE, after, e)
	}
}

func expectEnter(t *testing.T, c api.Cursor, n int, inner api.Cursor, e api.Errno) {
	t.Helper()
	if got, gotE := Enter(c, n); got != inner || gotE != e {
		t.Errorf("Enter(%+v, %d) = %+v, %v; expected %+v, %v", c, n, got, gotE, inner, e)
	}
}

func expectLeave(t *testing.T, c, inner, after api.Cursor) {
	t.Helper()
	if got := Leave(c, inner); got != after {
		t.Errorf("Leave(%+v, %+v) = %+v, expected %+v", c, inner, got, after)
	}
}

func expectOpen(t *testing.T, data string, l api.Limits, c api.Cursor, e api.Errno) {
	t.Helper()
	if got, gotE := Open(data, l); got != c || gotE != e {
		t.Errorf("Open(%q, %+v) = %+v, %v; expected %+v, %v", data, l, got, gotE, c, e)
	}
}

// Example 1 of the chapter.
func TestExampleReading(t *testing.T) {
	c, e := Open("\x05ab", api.Limits{Bytes: 3, Depth: 1, Nodes: 2, Text: 2})
	if e != api.OK {
		t.Fatal(e)
	}
	b, c, e := Byte(c)
	if b != 5 || e != api.OK {
		t.Fatal(b, e)
	}
	s, c, e := Text(c, 2)
	if s != "ab" || e != api.OK {
		t.Fatal(s, e)
	}
	expectByte(t, c, 0, c, api.ErrShort)
}

// Example 2 of the chapter.
func TestExampleNesting(t *testing.T) {
	c := api.Cursor{Data: "\x05ab", At: 1, End: 3, Depth: 1, Nodes: 2, Text: 2}
	inner, e := Enter(c, 1)
	if inner != (api.Cursor{Data: "\x05ab", At: 1, End: 2, Depth: 0, Nodes: 2, Text: 2}) || e != api.OK {
		t.Fatal(inner, e)
	}
	expectEnter(t, inner, 0, inner, api.ErrDepth)
	inner, e = Spend(inner, 2)
	if inner.Nodes != 0 || e != api.OK {
		t.Fatal(inner, e)
	}
	expectLeave(t, c, inner, api.Cursor{Data: "\x05ab", At: 2, End: 3, Depth: 1, Nodes: 0, Text: 2})
}

// Example 3 of the chapter.
func TestExampleErrors(t *testing.T) {
	c := api.Cursor{Data: "\x05ab", End: 3, Depth: 1, Nodes: 2, Text: 2}
	expectText(t, c, 3, "", c, api.ErrLimit)
	expectText(t, c, 4, "", c, api.ErrShort)
}

// P2.1: a cursor on all of the data, with the limits.
func TestOpen(t *testing.T) {
	l := api.Limits{Bytes: 3, Depth: 4, Nodes: 5, Text: 6}
	expectOpen(t, "abc", l, api.Cursor{Data: "abc", End: 3, Depth: 4, Nodes: 5, Text: 6}, api.OK)
	expectOpen(t, "\xff", l, api.Cursor{Data: "\xff", End: 1, Depth: 4, Nodes: 5, Text: 6}, api.OK)
	expectOpen(t, "", l, api.Cursor{Depth: 4, Nodes: 5, Text: 6}, api.OK)
	expectOpen(t, "", api.Limits{}, api.Cursor{}, api.OK)
	most := math.MaxInt
	expectOpen(t, "a", api.Limits{Bytes: most, Depth: most, Nodes: most, Text: most}, api.Cursor{Data: "a", End: 1, Depth: most, Nodes: most, Text: most}, api.OK)
}

// P2.1: the limits other than Bytes do not restrict the data.
func TestOpenOtherLimits(t *testing.T) {
	expectOpen(t, "abc", api.Limits{Bytes: 3}, api.Cursor{Data: "abc", End: 3}, api.OK)
}

// P2.1: more bytes than the limit.
func TestOpenTooLong(t *testing.T) {
	expectOpen(t, "a", api.Limits{Depth: 4, Nodes: 5, Text: 6}, api.Cursor{}, api.ErrLimit)
	expectOpen(t, "abcd", api.Limits{Bytes: 3, Depth: 4, Nodes: 5, Text: 6}, api.Cursor{}, api.ErrLimit)
}

// P2.1: a limit below 0, which is examined before the length of the data.
func TestOpenNegative(t *testing.T) {
	for _, n := range []int{-1, math.MinInt} {
		for _, data := range []string{"", "ab", "abcd"} {
			for _, l := range []api.Limits{
				{Bytes: n, Depth: 4, Nodes: 5, Text: 6},
				{Bytes: 3, Depth: n, Nodes: 5, Text: 6},
				{Bytes: 3, Depth: 4, Nodes: n, Text: 6},
				{Bytes: 3, Depth: 4, Nodes: 5, Text: n},
				{Bytes: n, Depth: n, Nodes: n, Text: n},
			} {
				expectOpen(t, data, l, api.Cursor{}, api.ErrArg)
			}
		}
	}
}

// P2.2: which positions are sound, and how many bytes are left then.
func TestSoundLeft(t *testing.T) {
	for _, c := range []struct {
		at, end int
		sound   bool
		left    int
	}{
		{0, 0, true, 0}, {0, 1, true, 1}, {0, 3, true, 3}, {1, 3, true, 2}, {2, 2, true, 0}, {3, 3, true, 0},
		{-1, 0, false, 0}, {-1, -1, false, 0}, {-1, 3, false, 0}, {0, -1, false, 0}, {2, 1, false, 0}, {3, 0, false, 0},
		{0, 4, false, 0}, {3, 4, false, 0}, {4, 3, false, 0}, {4, 4, false, 0},
		{math.MinInt, math.MaxInt, false, 0}, {math.MaxInt, math.MinInt, false, 0},
		{math.MinInt, 3, false, 0}, {0, math.MaxInt, false, 0}, {0, math.MinInt, false, 0},
	} {
		if got := Sound(at("abc", c.at, c.end)); got != c.sound {
			t.Errorf("Sound from %d to %d = %v", c.at, c.end, got)
		}
		if got := Left(at("abc", c.at, c.end)); got != c.left {
			t.Errorf("Left from %d to %d = %d, expected %d", c.at, c.end, got, c.left)
		}
	}
}

// P2.2: the limits play no part.
func TestSoundLeftAll(t *testing.T) {
	cursors(func(c api.Cursor) {
		if Sound(c) != fits(c) || Left(c) != len(remain(c)) {
			t.Errorf("%+v: Sound %v, Left %d", c, Sound(c), Left(c))
		}
	})
}

// P2.3: bytes are read up to End, not up to the end of the data.
func TestByte(t *testing.T) {
	expectByte(t, at("abc", 0, 3), 'a', at("abc", 1, 3), api.OK)
	expectByte(t, at("abc", 1, 2), 'b', at("abc", 2, 2), api.OK)
	expectByte(t, at("abc\xff", 3, 4), 255, at("abc\xff", 4, 4), api.OK)
	expectByte(t, at("\x00", 0, 1), 0, at("\x00", 1, 1), api.OK)
	for _, c := range []api.Cursor{at("", 0, 0), at("abc", 0, 0), at("abc", 2, 2), at("abc", 3, 3)} {
		expectByte(t, c, 0, c, api.ErrShort)
	}
}

// P2.3: varints, in their shortest form or not, at the beginning of what is left.
func TestVarint(t *testing.T) {
	expectVarint(t, at("\x05", 0, 1), 5, at("\x05", 1, 1), api.OK)
	expectVarint(t, at("a\xac\x02b", 1, 4), 300, at("a\xac\x02b", 3, 4), api.OK)
	expectVarint(t, at("\xac\x02", 1, 2), 2, at("\xac\x02", 2, 2), api.OK)
	expectVarint(t, at("\x80\x00", 0, 2), 0, at("\x80\x00", 2, 2), api.OK)
	expectVarint(t, at(high+"\x01", 0, 10), math.MaxUint64, at(high+"\x01", 10, 10), api.OK)
	expectVarint(t, at(high+"\x01\xff", 0, 11), math.MaxUint64, at(high+"\x01\xff", 10, 11), api.OK)
}

// P2.3: the errors of varint.Take, for the bytes that are left only.
func TestVarintErrors(t *testing.T) {
	for _, c := range []api.Cursor{at("", 0, 0), at("\x80", 0, 1), at("\x80\x01", 0, 1), at("\x05", 0, 0), at("\x05", 1, 1), at(high, 0, 9), at(high+"\x01", 0, 9), at(high+"\x02", 0, 9)} {
		expectVarint(t, c, 0, c, api.ErrShort)
	}
	for _, c := range []api.Cursor{at(high+"\x02", 0, 10), at(high+"\xff\x00", 0, 11), at("a"+high+"\x80", 1, 11)} {
		expectVarint(t, c, 0, c, api.ErrRange)
	}
}

// P2.3: eight bytes, the least significant one first.
func TestFixed(t *testing.T) {
	expectFixed(t, at("\x02\x01\x00\x00\x00\x00\x00\x80", 0, 8), 1<<63|258, at("\x02\x01\x00\x00\x00\x00\x00\x80", 8, 8), api.OK)
	expectFixed(t, at("a\x01\x02\x03\x04\x05\x06\x07\x08b", 1, 10), 0x0807060504030201, at("a\x01\x02\x03\x04\x05\x06\x07\x08b", 9, 10), api.OK)
	for n := range 8 {
		c := at(high, 1, 1+n)
		expectFixed(t, c, 0, c, api.ErrShort)
	}
	expectFixed(t, at(high, 1, 9), math.MaxUint64, at(high, 9, 9), api.OK)
}

// P2.3: reading needs none of the limits.
func TestReadingWithoutLimits(t *testing.T) {
	for _, l := range edges {
		c := api.Cursor{Data: "12345678", End: 8, Depth: l, Nodes: l, Text: l}
		expectByte(t, c, '1', moved(c, 1), api.OK)
		expectVarint(t, c, '1', moved(c, 1), api.OK)
		expectFixed(t, c, 0x3837363534333231, moved(c, 8), api.OK)
	}
}

// P2.3: all sorts of cursors; of those that are not sound no bytes are left.
func TestReadingAll(t *testing.T) {
	cursors(func(c api.Cursor) {
		s := remain(c)
		if s == "" {
			expectByte(t, c, 0, c, api.ErrShort)
		} else {
			expectByte(t, c, s[0], moved(c, 1), api.OK)
		}
		u, n, e := varint.Take(s)
		expectVarint(t, c, u, moved(c, n), e)
		if u, e := varint.TakeFixed(s); e != api.OK {
			expectFixed(t, c, 0, c, api.ErrShort)
		} else {
			expectFixed(t, c, u, moved(c, 8), api.OK)
		}
	})
}

// P2.4: the next bytes, whatever they are.
func TestText(t *testing.T) {
	c := api.Cursor{Data: "a\xff\x00bc", At: 1, End: 4, Depth: 0, Nodes: 0, Text: 3}
	for n, s := range []string{"", "\xff", "\xff\x00", "\xff\x00b"} {
		expectText(t, c, n, s, moved(c, n), api.OK)
	}
	expectText(t, at("", 0, 0), 0, "", at("", 0, 0), api.OK)
	long := strings.Repeat("ab", 5000)
	c = api.Cursor{Data: long, At: 1, End: len(long), Text: 9999}
	expectText(t, c, 9999, long[1:], moved(c, 9999), api.OK)
}

// P2.4: the errors, the first one that applies.
func TestTextErrors(t *testing.T) {
	c := api.Cursor{Data: "abcde", At: 1, End: 4, Text: 2}
	for _, n := range []int{-1, -3, math.MinInt} {
		expectText(t, c, n, "", c, api.ErrArg)
	}
	for _, n := range []int{4, 5, math.MaxInt} {
		expectText(t, c, n, "", c, api.ErrShort)
	}
	expectText(t, c, 3, "", c, api.ErrLimit)
	expectText(t, c, 2, "bc", moved(c, 2), api.OK)
	none := api.Cursor{Data: "ab", At: 2, End: 2, Text: 9}
	expectText(t, none, 1, "", none, api.ErrShort)
}

// P2.4: a negative limit permits no text at all, not even an empty one.
func TestTextNegativeLimit(t *testing.T) {
	for _, l := range []int{-1, math.MinInt} {
		c := api.Cursor{Data: "abc", End: 3, Text: l}
		expectText(t, c, 0, "", c, api.ErrLimit)
		expectText(t, c, 1, "", c, api.ErrLimit)
		expectText(t, c, 4, "", c, api.ErrShort)
		expectText(t, c, -1, "", c, api.ErrArg)
		expectText(t, c, l, "", c, api.ErrArg)
	}
}

// P2.4: all sorts of cursors; of those that are not sound no bytes are left.
func TestTextAll(t *testing.T) {
	cursors(func(c api.Cursor) {
		s := remain(c)
		for _, n := range append(numbers, 8, 9, 10) {
			switch {
			case n < 0:
				expectText(t, c, n, "", c, api.ErrArg)
			case n > len(s):
				expectText(t, c, n, "", c, api.ErrShort)
			case n > c.Text:
				expectText(t, c, n, "", c, api.ErrLimit)
			default:
				expectText(t, c, n, s[:n], moved(c, n), api.OK)
			}
		}
	})
}

// P2.5: values are used up, down to 0.
func TestSpend(t *testing.T) {
	c := api.Cursor{Data: "abc", At: 1, End: 2, Depth: 4, Nodes: 5, Text: 6}
	for n := range 6 {
		after := c
		after.Nodes = 5 - n
		expectSpend(t, c, n, after, api.OK)
	}
	expectSpend(t, c, 6, c, api.ErrLimit)
	expectSpend(t, c, math.MaxInt, c, api.ErrLimit)
	expectSpend(t, c, -1, c, api.ErrArg)
	expectSpend(t, c, math.MinInt, c, api.ErrArg)
}

// P2.5: a negative limit permits no values, not even none of them.
func TestSpendNegativeLimit(t *testing.T) {
	for _, l := range []int{-1, math.MinInt} {
		c := api.Cursor{Data: "abc", End: 3, Nodes: l}
		expectSpend(t, c, 0, c, api.ErrLimit)
		expectSpend(t, c, 1, c, api.ErrLimit)
		expectSpend(t, c, -1, c, api.ErrArg)
		expectSpend(t, c, l, c, api.ErrArg)
	}
}

// P2.5: all sorts of cursors; the positions play no part.
func TestSpendAll(t *testing.T) {
	cursors(func(c api.Cursor) {
		for _, n := range numbers {
			switch {
			case n < 0:
				expectSpend(t, c, n, c, api.ErrArg)
			case n > c.Nodes:
				expectSpend(t, c, n, c, api.ErrLimit)
			default:
				after := c
				after.Nodes -= n
				expectSpend(t, c, n, after, api.OK)
			}
		}
	})
}

// P2.6: a cursor on the next bytes, one level deeper.
func TestEnter(t *testing.T) {
	c := api.Cursor{Data: "abcde", At: 1, End: 4, Depth: 2, Nodes: 0, Text: 0}
	for n := range 4 {
		inner := c
		inner.End = 1 + n
		inner.Depth = 1
		expectEnter(t, c, n, inner, api.OK)
	}
	expectEnter(t, at("", 0, 0), 0, api.Cursor{Depth: 10, Nodes: 22, Text: 33}, api.OK)
}

// P2.6: the errors of Enter, the first one that applies.
func TestEnterErrors(t *testing.T) {
	for _, depth := range []int{math.MinInt, -1, 0, 1} {
		c := api.Cursor{Data: "abcde", At: 1, End: 4, Depth: depth, Nodes: 9, Text: 9}
		for _, n := range []int{-1, math.MinInt} {
			expectEnter(t, c, n, c, api.ErrArg)
		}
		for _, n := range []int{4, 5, math.MaxInt} {
			expectEnter(t, c, n, c, api.ErrShort)
		}
		if depth < 1 {
			for n := range 4 {
				expectEnter(t, c, n, c, api.ErrDepth)
			}
		}
	}
}

// P2.6: all sorts of cursors; of those that are not sound no bytes are left, but none can be entered.
func TestEnterAll(t *testing.T) {
	cursors(func(c api.Cursor) {
		for _, n := range append(numbers, 8, 9, 10) {
			switch {
			case n < 0:
				expectEnter(t, c, n, c, api.ErrArg)
			case n > len(remain(c)):
				expectEnter(t, c, n, c, api.ErrShort)
			case c.Depth < 1:
				expectEnter(t, c, n, c, api.ErrDepth)
			default:
				inner := c
				inner.End = c.At + n
				inner.Depth--
				expectEnter(t, c, n, inner, api.OK)
			}
		}
	})
}

// P2.6: Leave takes the end and the values of the inner cursor, and nothing else of it.
func TestLeave(t *testing.T) {
	c := api.Cursor{Data: "abcde", At: 1, End: 4, Depth: 2, Nodes: 5, Text: 6}
	for end := 1; end <= 4; end++ {
		for nodes := range 6 {
			want := c
			want.At = end
			want.Nodes = nodes
			expectLeave(t, c, api.Cursor{Data: "abcde", At: 1, End: end, Depth: 1, Nodes: nodes, Text: 6}, want)
			expectLeave(t, c, api.Cursor{Data: "x", At: 7, End: end, Depth: -1, Nodes: nodes, Text: -1}, want)
		}
	}
}

// P2.6: Leave returns c for an inner cursor that is no part of it.
func TestLeaveOther(t *testing.T) {
	c := api.Cursor{Data: "abcde", At: 1, End: 4, Depth: 2, Nodes: 5, Text: 6}
	for _, end := range []int{math.MinInt, -1, 0, 5, math.MaxInt} {
		expectLeave(t, c, api.Cursor{Data: "abcde", At: 1, End: end, Depth: 1, Nodes: 3, Text: 6}, c)
	}
	for _, nodes := range []int{math.MinInt, -1, 6, math.MaxInt} {
		expectLeave(t, c, api.Cursor{Data: "abcde", At: 1, End: 3, Depth: 1, Nodes: nodes, Text: 6}, c)
	}
}

// P2.6: Leave returns c if it is not sound, even if the inner cursor ends within it.
func TestLeaveNotSound(t *testing.T) {
	for _, c := range []api.Cursor{at("abc", -1, 3), at("abc", 0, 4), at("abc", 2, 1), at("abc", math.MinInt, math.MaxInt)} {
		for end := -1; end <= 4; end++ {
			expectLeave(t, c, api.Cursor{Data: "abc", At: 0, End: end, Depth: 1, Nodes: 3, Text: 6}, c)
		}
	}
}

// P2.6: Leave of all sorts of cursors.
func TestLeaveAll(t *testing.T) {
	cursors(func(c api.Cursor) {
		for _, end := range numbers {
			for _, nodes := range edges {
				inner := api.Cursor{Data: c.Data, At: c.At, End: end, Nodes: nodes}
				want := c
				if fits(c) && c.At <= end && end <= c.End && 0 <= nodes && nodes <= c.Nodes {
					want.At = end
					want.Nodes = nodes
				}
				expectLeave(t, c, inner, want)
			}
		}
	})
}

// results calls f with the result of each function for c, and its name.
func results(c api.Cursor, f func(string, api.Cursor)) {
	_, got, _ := Byte(c)
	f("Byte", got)
	_, got, _ = Varint(c)
	f("Varint", got)
	_, got, _ = Fixed(c)
	f("Fixed", got)
	for _, n := range append(numbers, 8, 9) {
		_, got, _ = Text(c, n)
		f("Text", got)
		got, _ = Spend(c, n)
		f("Spend", got)
		got, _ = Enter(c, n)
		f("Enter", got)
		for _, nodes := range edges {
			f("Leave", Leave(c, api.Cursor{Data: "abcd", At: 1, End: n, Depth: 99, Nodes: nodes, Text: 99}))
		}
	}
}

// P2.7: of a sound cursor comes a sound one.
func TestStaysSound(t *testing.T) {
	cursors(func(c api.Cursor) {
		if !fits(c) {
			return
		}
		results(c, func(name string, got api.Cursor) {
			if !Sound(got) || !fits(got) || got.Data != c.Data {
				t.Errorf("%s of %+v: %+v", name, c, got)
			}
		})
	})
}

// P2.7: what Open returns is sound, and so is the zero cursor that comes with an error.
func TestOpenSound(t *testing.T) {
	for _, data := range []string{"", "a", "abc", "abcd"} {
		for _, l := range edges {
			if c, _ := Open(data, api.Limits{Bytes: l, Depth: 1, Nodes: 1, Text: 1}); !Sound(c) || !fits(c) {
				t.Errorf("Open(%q) with the limit %d: %+v", data, l, c)
			}
		}
	}
}

// P2.8: no call goes back or gives more than c has. (Enter with 0 bytes of a cursor that is not sound is by P2.6 a cursor that ends at At, wherever c ended.)
func TestNeverMore(t *testing.T) {
	cursors(func(c api.Cursor) {
		results(c, func(name string, got api.Cursor) {
			if got.At < c.At || got.Depth > c.Depth || got.Nodes > c.Nodes || got.Text > c.Text {
				t.Errorf("%s of %+v: %+v", name, c, got)
			}
			if got.End > c.End && (name != "Enter" || fits(c)) {
				t.Errorf("%s moves the end of %+v: %+v", name, c, got)
			}
		})
	})
}

// step performs one call on c and, if it entered a part, all later ones on that part before it is left.
func step(c api.Cursor, op byte, n int) api.Cursor {
	switch op % 6 {
	case 0:
		_, c, _ = Byte(c)
	case 1:
		_, c, _ = Varint(c)
	case 2:
		_, c, _ = Fixed(c)
	case 3:
		_, c, _ = Text(c, n)
	case 4:
		c, _ = Spend(c, n)
	case 5:
		inner, e := Enter(c, n)
		if e == api.OK {
			_, inner, _ = Byte(inner)
			inner, _ = Spend(inner, 1)
			c = Leave(c, inner)
		}
	}
	return c
}

// 0.1, P2.7, P2.8: no sequence of calls panics, leaves the data, or gives more than there was.
func FuzzSteps(f *testing.F) {
	f.Add("\x05ab", []byte{0, 0, 3, 2})
	f.Add("\xac\x02abcdefgh", []byte{1, 0, 2, 0, 0, 0})
	f.Add("abcdefgh", []byte{5, 4, 4, 2, 3, 3, 5, 9, 3, 255})
	f.Fuzz(func(t *testing.T, data string, steps []byte) {
		c, e := Open(data, api.Limits{Bytes: len(data), Depth: 3, Nodes: 7, Text: 5})
		if e != api.OK {
			t.Fatal(e)
		}
		for ; len(steps) > 1; steps = steps[2:] {
			got := step(c, steps[0], int(int8(steps[1])))
			if !Sound(got) || got.At < c.At || got.End > c.End || got.Depth > c.Depth || got.Nodes > c.Nodes || got.Text > c.Text {
				t.Fatalf("%+v after %+v", got, c)
			}
			c = got
		}
	})
}
