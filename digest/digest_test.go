package digest

import (
	"hash/crc32"
	"hash/fnv"
	"math"
	"math/bits"
	"strings"
	"testing"

	"wireschema/api"
)

// samples returns strings of all sorts, with each byte in them, and of all lengths up to 40.
func samples() []string {
	l := []string{"", "foobar", "123456789", "é€\U0001f600", "a\xffb\xc3", strings.Repeat("\x00", 9), strings.Repeat("\xff", 9), strings.Repeat("wireschema", 100)}
	for b := range 256 {
		c := string([]byte{byte(b)})
		l = append(l, c, c+"\x00", "\x00"+c, "a"+c+"\x80")
	}
	for n := range 40 {
		l = append(l, noise(uint64(n), n))
	}
	return l
}

// noise returns n bytes that follow no simple rule.
func noise(seed uint64, n int) string {
	b := make([]byte, n)
	for i := range b {
		seed = seed*6364136223846793005 + 1442695040888963407
		b[i] = byte(seed >> 56)
	}
	return string(b)
}

// numbers returns the numbers around each power of two, and some in between.
func numbers() []uint64 {
	l := []uint64{0, 0x0123456789abcdef, 0xfedcba9876543210, math.MaxUint64}
	for i := range 64 {
		p := uint64(1) << i
		l = append(l, p, p-1, -p, p*10, math.MaxUint64/3>>i)
	}
	return l
}

// register returns by the definition the checksum of s, bit by bit.
func register(s string) uint64 {
	r := uint32(0xffffffff)
	for i := range len(s) {
		for k := range 8 {
			differs := r&1 != uint32(s[i]>>k&1)
			r >>= 1
			if differs {
				r ^= 0xedb88320
			}
		}
	}
	return uint64(^r)
}

// xor returns s with the bytes of d XORed into it from index at on.
func xor(s string, at int, d ...byte) string {
	b := []byte(s)
	for i, x := range d {
		b[at+i] ^= x
	}
	return string(b)
}

func expectOpen(t *testing.T, s, inner string, e api.Errno) {
	t.Helper()
	if got, gotE := Open(s); got != inner || gotE != e {
		t.Errorf("Open(%q) = %q, %v; expected %q, %v", s, got, gotE, inner, e)
	}
}

func expectParse(t *testing.T, s string, u uint64, e api.Errno) {
	t.Helper()
	if got, gotE := Parse(s); got != u || gotE != e {
		t.Errorf("Parse(%q) = %#x, %v; expected %#x, %v", s, got, gotE, u, e)
	}
}

// P5.1: fingerprints of the chapter, and published ones.
func TestFnvExamples(t *testing.T) {
	for s, want := range map[string]uint64{
		"":       0xcbf29ce484222325,
		"a":      0xaf63dc4c8601ec8c,
		"b":      0xaf63df4c8601f1a5,
		"foobar": 0x85944171f73967e8,
		"\x00":   0xaf63bd4c8601b7df,
	} {
		if got := Fnv(s); got != want {
			t.Errorf("Fnv(%q) = %x, expected %x", s, got, want)
		}
	}
}

// P5.1: each byte of any string counts, in order, as another implementation has it.
func TestFnv(t *testing.T) {
	for _, s := range samples() {
		h := fnv.New64a()
		h.Write([]byte(s))
		if got := Fnv(s); got != h.Sum64() {
			t.Errorf("Fnv(%q) = %x, expected %x", s, got, h.Sum64())
		}
	}
}

// P5.1: Mix is the fingerprint of the bytes of a and then of b, the least significant ones first.
func TestMix(t *testing.T) {
	for _, c := range []struct {
		a, b uint64
		s    string
	}{
		{0, 0, strings.Repeat("\x00", 16)},
		{1, 0, "\x01" + strings.Repeat("\x00", 15)},
		{0, 1, strings.Repeat("\x00", 8) + "\x01" + strings.Repeat("\x00", 7)},
		{0x0807060504030201, 0x100f0e0d0c0b0a09, "\x01\x02\x03\x04\x05\x06\x07\x08\x09\x0a\x0b\x0c\x0d\x0e\x0f\x10"},
		{1 << 63, 0xff, strings.Repeat("\x00", 7) + "\x80\xff" + strings.Repeat("\x00", 7)},
		{math.MaxUint64, math.MaxUint64, strings.Repeat("\xff", 16)},
	} {
		h := fnv.New64a()
		h.Write([]byte(c.s))
		if got := Mix(c.a, c.b); got != h.Sum64() {
			t.Errorf("Mix(%#x, %#x) = %x, expected %x", c.a, c.b, got, h.Sum64())
		}
	}
	for _, a := range numbers() {
		if got := Mix(a, 0x8877665544332211); got == Mix(a, a) || got == Mix(0x8877665544332211, a) {
			t.Errorf("Mix(%#x, ..) = %x, as if it was another pair", a, got)
		}
	}
}

// P5.2: checksums of the chapter, and published ones.
func TestCrcExamples(t *testing.T) {
	for s, want := range map[string]uint64{
		"":             0,
		"\x00":         0xd202ef8d,
		"\xff":         0xff000000,
		"a":            0xe8b7be43,
		"abc":          0x352441c2,
		"123456789":    0xcbf43926,
		"\x00\x00\x00": 0xff41d912,
		"The quick brown fox jumps over the lazy dog": 0x414fa339,
	} {
		if got := Crc(s); got != want {
			t.Errorf("Crc(%q) = %x, expected %x", s, got, want)
		}
	}
}

// P5.2: each bit of any string counts, by the definition and as another implementation has it.
func TestCrc(t *testing.T) {
	for _, s := range samples() {
		if got := Crc(s); got != register(s) || got != uint64(crc32.ChecksumIEEE([]byte(s))) {
			t.Errorf("Crc(%q) = %x, expected %x", s, got, register(s))
		}
	}
}

// P5.3: the checksum stands behind the string, the least significant byte first.
func TestSeal(t *testing.T) {
	for s, want := range map[string]string{
		"":                 "\x00\x00\x00\x00",
		"a":                "a\x43\xbe\xb7\xe8",
		"123456789":        "123456789\x26\x39\xf4\xcb",
		"\x00":             "\x00\x8d\xef\x02\xd2",
		"\x00\x00\x00\x00": "\x00\x00\x00\x00\x1c\xdf\x44\x21",
	} {
		if got := Seal(s); got != want {
			t.Errorf("Seal(%q) = %q, expected %q", s, got, want)
		}
		expectOpen(t, want, s, api.OK)
	}
	for _, s := range samples() {
		crc := register(s)
		if got, want := Seal(s), s+string([]byte{byte(crc), byte(crc >> 8), byte(crc >> 16), byte(crc >> 24)}); got != want {
			t.Errorf("Seal(%q) = %q, expected %q", s, got, want)
		}
	}
}

// P5.3: fewer than four bytes are too short, whatever they are.
func TestOpenShort(t *testing.T) {
	for _, s := range []string{"", "\x00", "a", "\x00\x00", "\xff\xff", "\x00\x00\x00", "abc", Seal("")[:3], Seal("abc")[3:6]} {
		expectOpen(t, s, "", api.ErrShort)
	}
}

// P5.3: from four bytes on, wrong checksums are found.
func TestOpenSum(t *testing.T) {
	for _, s := range []string{"aaaa", "\x00\x00\x00\x01", "\x01\x00\x00\x00", "\xff\xff\xff\xff", "\x00\x00\x00\x00\x00", "123456789", "123456789\xcb\xf4\x39\x26", "123456789cbf43926", "\x26\x39\xf4\xcb123456789", "12345678\x26\x39\xf4\xcb", "a\x43\xbe\xb7"} {
		expectOpen(t, s, "", api.ErrSum)
	}
	for _, s := range samples() {
		sealed := Seal(s)
		expectOpen(t, sealed+"a", "", api.ErrSum)
		if s != "" {
			expectOpen(t, sealed[1:], "", api.ErrSum)
			expectOpen(t, sealed[:len(sealed)-1], "", api.ErrSum)
		}
	}
}

// P5.4: sixteen digits, the most significant one first.
func TestText(t *testing.T) {
	for u, want := range map[uint64]string{
		0:                  "0000000000000000",
		1:                  "0000000000000001",
		255:                "00000000000000ff",
		0x0123456789abcdef: "0123456789abcdef",
		0xfedcba9876543210: "fedcba9876543210",
		1 << 60:            "1000000000000000",
		1<<60 - 1:          "0fffffffffffffff",
		1 << 63:            "8000000000000000",
		math.MaxUint64:     "ffffffffffffffff",
	} {
		if got := Text(u); got != want {
			t.Errorf("Text(%#x) = %q, expected %q", u, got, want)
		}
		expectParse(t, want, u, api.OK)
	}
}

// P5.4: Parse inverts Text, and accepts no digits of another number or form.
func TestParse(t *testing.T) {
	for _, u := range numbers() {
		s := Text(u)
		expectParse(t, s, u, api.OK)
		for _, wrong := range []string{s[1:], s[:15], s + "0", "0" + s, s + " ", " " + s, "+" + s, "-" + s, "0x" + s, s[:15] + "\n", s + s} {
			expectParse(t, wrong, 0, api.ErrSyntax)
		}
	}
	for _, s := range []string{"", "0", "f", "ff", "00000000000000fF", "00000000000000FF", "0123456789ABCDEF", "A000000000000000", "0x000000000000ff", "0X000000000000ff", "+0000000000000ff", "-0000000000000ff", "              ff", "ff              ", "0000_0000_0000ff", "00000000000000é", "０00000000000000", "\x00\x00\x00\x00\x00\x00\x00\x00\x00\x00\x00\x00\x00\x00\x00\x00", "inf", "nan"} {
		expectParse(t, s, 0, api.ErrSyntax)
	}
}

// P5.4: at each place of the text just the sixteen digits are accepted.
func TestParseDigits(t *testing.T) {
	s := "0123456789abcdef"
	for i := range len(s) {
		for b := range 256 {
			changed := s[:i] + string([]byte{byte(b)}) + s[i+1:]
			digit := strings.IndexByte("0123456789abcdef", byte(b))
			if digit < 0 {
				expectParse(t, changed, 0, api.ErrSyntax)
				continue
			}
			shift := 4 * (15 - i)
			expectParse(t, changed, 0x0123456789abcdef&^(15<<shift)|uint64(digit)<<shift, api.OK)
		}
	}
}

// P5.5: Open inverts Seal, also of what is sealed already.
func TestOpenInverse(t *testing.T) {
	for _, s := range samples() {
		expectOpen(t, Seal(s), s, api.OK)
		expectOpen(t, Seal(Seal(s)), Seal(s), api.OK)
	}
}

// P5.5: differences in one byte and in two bytes beside each other are found, in the string, in its checksum, and across their border.
func TestOneOrTwoBytesDiffer(t *testing.T) {
	for _, s := range []string{"", "a", "\x00\x00\x00", "123456789"} {
		sealed := Seal(s)
		for at := range len(sealed) {
			for d := 1; d < 1<<16; d++ {
				if d < 256 {
					expectOpen(t, xor(sealed, at, byte(d)), "", api.ErrSum)
				}
				if at+1 < len(sealed) {
					expectOpen(t, xor(sealed, at, byte(d), byte(d>>8)), "", api.ErrSum)
				}
			}
		}
	}
}

// P5.5: differences within four bytes are found.
func TestFourBytesDiffer(t *testing.T) {
	for _, s := range samples() {
		sealed := Seal(s)
		for at := 0; at+4 <= min(len(sealed), 50); at++ {
			for k := range uint64(20) {
				d := noise(k*1000+uint64(at), 4)
				expectOpen(t, xor(sealed, at, d[0], d[1], d[2], d[3]), "", api.ErrSum)
				expectOpen(t, xor(sealed, at, d[0]|1, 0, 0, d[3]|1), "", api.ErrSum)
				expectOpen(t, xor(sealed, at, 0, d[1], d[2]|1, 0), "", api.ErrSum)
			}
			expectOpen(t, xor(sealed, at, 0x20, 0x83, 0xb8, 0xed), "", api.ErrSum)
			expectOpen(t, xor(sealed, at, 255, 255, 255, 255), "", api.ErrSum)
		}
	}
}

// P5.5: none of the differences within four bytes is missed: what the 32 bits add to the checksum is independent of each other.
func TestNoDifferenceIsMissed(t *testing.T) {
	for _, s := range []string{"", "a", "abc", "123456789", noise(1, 30)} {
		sealed := Seal(s)
		for at := range len(sealed) - 3 {
			var basis [32]uint64
			for bit := range 32 {
				c := syndrome(xor(sealed, at+bit/8, 1<<(bit%8)))
				for c != 0 && basis[bits.Len64(c)-1] != 0 {
					c ^= basis[bits.Len64(c)-1]
				}
				if c == 0 {
					t.Fatalf("Seal(%q): a difference within the bytes from %d on is not seen", s, at)
				}
				basis[bits.Len64(c)-1] = c
			}
		}
	}
}

// syndrome returns how the last four bytes of s differ from the checksum of the bytes before them.
func syndrome(s string) uint64 {
	n := len(s) - 4
	return Crc(s[:n]) ^ (uint64(s[n]) | uint64(s[n+1])<<8 | uint64(s[n+2])<<16 | uint64(s[n+3])<<24)
}

// P5.6: strings that differ in one byte have different fingerprints.
func TestOneByteDiffersInFnv(t *testing.T) {
	for _, s := range samples() {
		for i := range min(len(s), 20) {
			seen := map[uint64]int{}
			for d := range 256 {
				u := Fnv(xor(s, i, byte(d)))
				if other, ok := seen[u]; ok {
					t.Fatalf("Fnv is %x for %q with the byte %d XORed with %d and with %d", u, s, i, other, d)
				}
				seen[u] = d
			}
		}
	}
}

// The time grows with the length only: strings of megabytes are examined in no noticeable time.
func TestLong(t *testing.T) {
	long := strings.Repeat("0", 1<<22)
	expectParse(t, long, 0, api.ErrSyntax)
	expectParse(t, strings.Repeat("f", 1<<22), 0, api.ErrSyntax)
	expectOpen(t, Seal(long), long, api.OK)
	expectOpen(t, long, "", api.ErrSum)
	if a, b := Fnv(long), Fnv(long[1:]+"1"); a == b {
		t.Errorf("Fnv of long strings that differ in one byte is %x", a)
	}
}

// 0.1, 0.3: no string makes a function panic, and with an error the other result is zero.
func FuzzDigest(f *testing.F) {
	for _, s := range []string{"", "abc", "\x00\x00\x00\x00", Seal("a"), Text(255), strings.ToUpper(Text(255))} {
		f.Add(s)
	}
	f.Fuzz(func(t *testing.T, s string) {
		switch inner, e := Open(s); {
		case e == api.OK && Seal(inner) != s, e != api.OK && inner != "", (e == api.ErrShort) != (len(s) < 4), e != api.OK && e != api.ErrShort && e != api.ErrSum:
			t.Errorf("Open(%q) = %q, %v", s, inner, e)
		}
		switch u, e := Parse(s); {
		case e == api.OK && Text(u) != s, e != api.OK && (u != 0 || e != api.ErrSyntax):
			t.Errorf("Parse(%q) = %#x, %v", s, u, e)
		}
		expectOpen(t, Seal(s), s, api.OK)
		expectParse(t, Text(Fnv(s)), Fnv(s), api.OK)
		if got := Crc(s); got != register(s) {
			t.Errorf("Crc(%q) = %x, expected %x", s, got, register(s))
		}
	})
}
