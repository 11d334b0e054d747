package varint

import (
	"math"
	"math/big"
	"slices"
	"strings"
	"testing"

	"wireschema/api"
)

var high = strings.Repeat("\xff", 9)

// edges returns the numbers around each power of two, where lengths and signs change, and some in between.
func edges() []uint64 {
	l := []uint64{0, 300, 1234567, math.MaxUint64}
	for i := range 64 {
		p := uint64(1) << i
		l = append(l, p-1, p, p+1, -p, p*3, math.MaxUint64/3>>i)
	}
	slices.Sort(l)
	return slices.Compact(l)
}

// groups returns the varint of u by the definition: all groups, without zero groups at the end.
func groups(u uint64) string {
	var l []byte
	for i := 0; i < 64; i += 7 {
		l = append(l, byte(u>>i&127)|128)
	}
	for len(l) > 1 && l[len(l)-1] == 128 {
		l = l[:len(l)-1]
	}
	l[len(l)-1] &= 127
	return string(l)
}

func expectTake(t *testing.T, s string, u uint64, n int, e api.Errno) {
	t.Helper()
	gotU, gotN, gotE := Take(s)
	if gotU != u || gotN != n || gotE != e {
		t.Errorf("Take(%q) = %d, %d, %v; expected %d, %d, %v", s, gotU, gotN, gotE, u, n, e)
	}
}

// P1.1: the varint of a number.
func TestPutExamples(t *testing.T) {
	for _, c := range []struct {
		u    uint64
		want string
	}{
		{0, "\x00"},
		{1, "\x01"},
		{127, "\x7f"},
		{128, "\x80\x01"},
		{300, "\xac\x02"},
		{16383, "\xff\x7f"},
		{16384, "\x80\x80\x01"},
		{1<<63 - 1, strings.Repeat("\xff", 8) + "\x7f"},
		{1 << 63, strings.Repeat("\x80", 9) + "\x01"},
		{math.MaxUint64, high + "\x01"},
	} {
		if got := Put(c.u); got != c.want {
			t.Errorf("Put(%d) = %q, expected %q", c.u, got, c.want)
		}
	}
}

// P1.1: all groups are written, and none at the end that is zero.
func TestPutGroups(t *testing.T) {
	for _, u := range edges() {
		if got, want := Put(u), groups(u); got != want {
			t.Errorf("Put(%d) = %q, expected %q", u, got, want)
		}
	}
}

// P1.1: the length is that of the varint, from 1 to 10.
func TestLen(t *testing.T) {
	for _, u := range edges() {
		if got, want := Len(u), len(groups(u)); got != want || got < 1 || got > 10 {
			t.Errorf("Len(%d) = %d, expected %d", u, got, want)
		}
	}
	// Each group more is needed from the next power of 128 on.
	for n := 1; n < 10; n++ {
		if p := uint64(1) << (7 * n); Len(p-1) != n || Len(p) != n+1 {
			t.Errorf("Len(%d), Len(%d) = %d, %d, expected %d, %d", p-1, p, Len(p-1), Len(p), n, n+1)
		}
	}
}

// P1.2: Take reads up to the first byte without the high bit, and nothing behind it.
func TestTakeReads(t *testing.T) {
	expectTake(t, "\x00", 0, 1, api.OK)
	expectTake(t, "\x7f", 127, 1, api.OK)
	expectTake(t, "\x05\x80", 5, 1, api.OK)
	expectTake(t, "\x05"+high+"\xff", 5, 1, api.OK)
	expectTake(t, "\xac\x02\x09", 300, 2, api.OK)
	expectTake(t, high+"\x01\xff", math.MaxUint64, 10, api.OK)
	expectTake(t, high+"\x00", 1<<63-1, 10, api.OK)
}

// P1.2: Take accepts zero groups at the end, up to the tenth byte.
func TestTakeZeroGroups(t *testing.T) {
	expectTake(t, "\x80\x00", 0, 2, api.OK)
	expectTake(t, "\xac\x82\x00\x05", 300, 3, api.OK)
	for n := range 10 {
		expectTake(t, strings.Repeat("\x80", n)+"\x00", 0, n+1, api.OK)
	}
}

// P1.2: bytes that end before one without the high bit are too short.
func TestTakeShort(t *testing.T) {
	for n := range 10 {
		expectTake(t, high[:n], 0, 0, api.ErrShort)
		expectTake(t, strings.Repeat("\x80", n), 0, 0, api.ErrShort)
		expectTake(t, strings.Repeat("\x81", n), 0, 0, api.ErrShort)
	}
}

// P1.2: the tenth byte is at most 1, with or without the high bit, whatever follows.
func TestTakeRange(t *testing.T) {
	for b := range 256 {
		for _, before := range []string{high, strings.Repeat("\x80", 9)} {
			for _, after := range []string{"", "\x00", "\xff"} {
				s := before + string([]byte{byte(b)}) + after
				if b > 1 {
					expectTake(t, s, 0, 0, api.ErrRange)
				} else if _, n, e := Take(s); n != 10 || e != api.OK {
					t.Errorf("Take(%q): %d, %v", s, n, e)
				}
			}
		}
	}
}

// P1.2: Short accepts just the shortest form, and nothing behind it.
func TestShort(t *testing.T) {
	for _, s := range []string{"\x00", "\x01", "\x7f", "\x80\x01", "\xac\x02", "\x80\x80\x01", high + "\x01"} {
		if !Short(s) {
			t.Errorf("Short(%q) is false", s)
		}
	}
	for _, s := range []string{"", "\x80", "\x80\x00", "\x81\x00", "\x80\x80\x00", "\x00\x00", "\x01\x00", "\x01\x80", "\xac\x02\x09", "\xac\x82\x00", high, high + "\x00", high + "\x02", high + "\x81", high + "\x81\x00", high + "\xff", high + "\x01\x00"} {
		if Short(s) {
			t.Errorf("Short(%q) is true", s)
		}
	}
}

// P1.3: the examples of the chapter, and the ends of the range.
func TestZigExamples(t *testing.T) {
	for _, c := range []struct {
		n int
		u uint64
	}{
		{0, 0}, {-1, 1}, {1, 2}, {-2, 3}, {2, 4}, {-64, 127}, {64, 128},
		{math.MaxInt, math.MaxUint64 - 1}, {math.MinInt, math.MaxUint64},
		{math.MinInt + 1, math.MaxUint64 - 2},
	} {
		if got := Zig(c.n); got != c.u {
			t.Errorf("Zig(%d) = %d, expected %d", c.n, got, c.u)
		}
		if got := Zag(c.u); got != c.n {
			t.Errorf("Zag(%d) = %d, expected %d", c.u, got, c.n)
		}
	}
}

// P1.3: 2 * n, or -2 * n - 1 for negative numbers, without overflow.
func TestZigFormula(t *testing.T) {
	for _, u := range edges() {
		n := int(u)
		want := new(big.Int).Mul(big.NewInt(2), big.NewInt(int64(n)))
		if n < 0 {
			want.Neg(want).Sub(want, big.NewInt(1))
		}
		if got := Zig(n); !want.IsUint64() || got != want.Uint64() {
			t.Errorf("Zig(%d) = %d, expected %v", n, got, want)
		}
	}
}

// P1.3: u / 2 for even u, -(u / 2) - 1 for odd u, without overflow.
func TestZagFormula(t *testing.T) {
	for _, u := range edges() {
		want := new(big.Int).Rsh(new(big.Int).SetUint64(u), 1)
		if u%2 == 1 {
			want.Neg(want).Sub(want, big.NewInt(1))
		}
		if got := Zag(u); !want.IsInt64() || int64(got) != want.Int64() {
			t.Errorf("Zag(%d) = %d, expected %v", u, got, want)
		}
	}
}

// P1.4: eight bytes, the least significant one first.
func TestFixed(t *testing.T) {
	for _, c := range []struct {
		u    uint64
		want string
	}{
		{0, "\x00\x00\x00\x00\x00\x00\x00\x00"},
		{258, "\x02\x01\x00\x00\x00\x00\x00\x00"},
		{0x0807060504030201, "\x01\x02\x03\x04\x05\x06\x07\x08"},
		{1 << 63, "\x00\x00\x00\x00\x00\x00\x00\x80"},
		{math.MaxUint64, "\xff\xff\xff\xff\xff\xff\xff\xff"},
	} {
		if got := Fixed(c.u); got != c.want {
			t.Errorf("Fixed(%d) = %q, expected %q", c.u, got, c.want)
		}
		if got, e := TakeFixed(c.want); got != c.u || e != api.OK {
			t.Errorf("TakeFixed(%q) = %d, %v, expected %d", c.want, got, e, c.u)
		}
	}
}

// P1.4: fewer than eight bytes are too short.
func TestTakeFixedShort(t *testing.T) {
	for n := range 8 {
		if u, e := TakeFixed("\xff\x01abcde"[:n]); u != 0 || e != api.ErrShort {
			t.Errorf("TakeFixed of %d bytes = %d, %v", n, u, e)
		}
	}
}

// P1.5: what was written is read again, whatever follows.
func TestRoundTrip(t *testing.T) {
	for _, u := range edges() {
		for _, rest := range []string{"", "\x00", "\x80", "\xff", "a", high, strings.Repeat("\x00", 20)} {
			expectTake(t, Put(u)+rest, u, Len(u), api.OK)
			if got, e := TakeFixed(Fixed(u) + rest); got != u || e != api.OK {
				t.Errorf("TakeFixed(Fixed(%d) and %q) = %d, %v", u, rest, got, e)
			}
			if got := Short(Put(u) + rest); got != (rest == "") {
				t.Errorf("Short(Put(%d) and %q) = %v", u, rest, got)
			}
		}
	}
}

// P1.5: no other string than Put(u) is both accepted by Short and read as u.
func TestShortIsUnique(t *testing.T) {
	unique := func(b []byte) {
		u, _, e := Take(string(b))
		if want := e == api.OK && string(b) == groups(u); Short(string(b)) != want {
			t.Errorf("Short(%q) is not %v", b, want)
		}
	}
	unique(nil)
	for a := range 256 {
		unique([]byte{byte(a)})
		for b := range 256 {
			unique([]byte{byte(a), byte(b)})
			unique([]byte{128, byte(a), byte(b)})
		}
	}
	for _, u := range edges() {
		// The same number with zero groups at the end.
		for s := []byte(Put(u)); len(s) < 12; {
			s[len(s)-1] |= 128
			s = append(s, 0)
			unique(s)
		}
	}
}

// P1.6: Zig and Zag undo each other.
func TestZigZagInverse(t *testing.T) {
	for _, u := range edges() {
		if got := Zig(Zag(u)); got != u {
			t.Errorf("Zig(Zag(%d)) = %d", u, got)
		}
		if n := int(u); Zag(Zig(n)) != n {
			t.Errorf("Zag(Zig(%d)) = %d", n, Zag(Zig(n)))
		}
	}
}

// P1.6: a smaller absolute value never has the longer varint.
func TestZigLengths(t *testing.T) {
	size := func(n int) uint64 {
		if n < 0 {
			return -uint64(n)
		}
		return uint64(n)
	}
	var l []int
	for _, u := range edges() {
		l = append(l, int(u))
	}
	for _, a := range l {
		for _, b := range l {
			if size(a) < size(b) && Len(Zig(a)) > Len(Zig(b)) {
				t.Errorf("Zig(%d) has a longer varint than Zig(%d)", a, b)
			}
		}
	}
}

// 0.1: no string makes Take or TakeFixed panic, and with an error the other results are zero.
func FuzzTake(f *testing.F) {
	for _, s := range []string{"", "\x00", "\x80", "\xac\x02", high, high + "\x01", high + "\x02", high + high} {
		f.Add(s)
	}
	f.Fuzz(func(t *testing.T, s string) {
		u, n, e := Take(s)
		if e == api.OK && (n < 1 || n > 10 || n > len(s)) || e != api.OK && (u != 0 || n != 0) {
			t.Errorf("Take(%q) = %d, %d, %v", s, u, n, e)
		}
		if Short(s) != (e == api.OK && s == Put(u)) {
			t.Errorf("Short(%q) = %v", s, Short(s))
		}
		v, e := TakeFixed(s)
		if e == api.OK && !strings.HasPrefix(s, Fixed(v)) || e != api.OK && v != 0 {
			t.Errorf("TakeFixed(%q) = %d, %v", s, v, e)
		}
	})
}
