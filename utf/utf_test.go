package utf

import (
	"slices"
	"strings"
	"testing"

	"wireschema/api"
)

type span struct{ from, to byte }

// rows is the chapter's table of the well-formed sequences, with the single bytes as its first row.
var rows = [][]span{
	{{0, 0x7f}},
	{{0xc2, 0xdf}, {0x80, 0xbf}},
	{{0xe0, 0xe0}, {0xa0, 0xbf}, {0x80, 0xbf}},
	{{0xe1, 0xec}, {0x80, 0xbf}, {0x80, 0xbf}},
	{{0xee, 0xef}, {0x80, 0xbf}, {0x80, 0xbf}},
	{{0xed, 0xed}, {0x80, 0x9f}, {0x80, 0xbf}},
	{{0xf0, 0xf0}, {0x90, 0xbf}, {0x80, 0xbf}, {0x80, 0xbf}},
	{{0xf1, 0xf3}, {0x80, 0xbf}, {0x80, 0xbf}, {0x80, 0xbf}},
	{{0xf4, 0xf4}, {0x80, 0x8f}, {0x80, 0xbf}, {0x80, 0xbf}},
}

// edges are bytes at the ends of the ranges of the table, and those with a form of their own.
var edges = []byte("\x00\x09\x0a\x0d\x1f\x20\"\\anrtx09\x7e\x7f\x80\x8f\x90\x9f\xa0\xbd\xbf\xc0\xc1\xc2\xdf\xe0\xe1\xec\xed\xee\xef\xf0\xf1\xf3\xf4\xf5\xff")

// tails are the bytes of edges at which it is decided whether they are the third or fourth one of a sequence.
var tails = []byte("\x00\"\x7f\x80\xbd\xbf\xc0\xff")

// length returns by the table the length of the sequence that s begins with, or 0.
func length(s string) int {
	for _, row := range rows {
		if len(s) < len(row) {
			continue
		}
		ok := true
		for i, r := range row {
			ok = ok && r.from <= s[i] && s[i] <= r.to
		}
		if ok {
			return len(row)
		}
	}
	return 0
}

// divide returns by the definition the index of the first wrong byte, the number of parts, and the quoted form.
func divide(s string) (int, int, string) {
	bad, count, quoted := -1, 0, []byte{'"'}
	for i := 0; i < len(s); count++ {
		n := length(s[i:])
		if n == 0 && bad < 0 {
			bad = i
		}
		quoted = append(quoted, quotedPart(s[i:i+max(n, 1)], n == 0)...)
		i += max(n, 1)
	}
	return bad, count, string(append(quoted, '"'))
}

// quotedPart returns by the definition the form of a part.
func quotedPart(part string, bad bool) string {
	const hex = "0123456789abcdef"
	switch c := part[0]; {
	case c == '"':
		return `\"`
	case c == '\\':
		return `\\`
	case c == 10:
		return `\n`
	case c == 9:
		return `\t`
	case c == 13:
		return `\r`
	case c < 32 || c == 127 || bad:
		return `\x` + hex[c/16:c/16+1] + hex[c%16:c%16+1]
	}
	return part
}

// strings2to4 calls f with all strings of up to two bytes, and with those of three and four bytes that are at the ends of the ranges.
func strings2to4(f func(string)) {
	f("")
	for a := range 256 {
		f(string([]byte{byte(a)}))
		for b := range 256 {
			two := string([]byte{byte(a), byte(b)})
			f(two)
			if a < 0xc0 && !slices.Contains(edges, byte(a)) {
				continue
			}
			for _, c := range tails {
				f(two + string([]byte{c}))
				if a < 0xf0 && a > 0x7f {
					continue
				}
				for _, d := range tails {
					f(two + string([]byte{c, d}))
				}
			}
		}
	}
}

// samples returns texts of all sorts, in which parts of all lengths stand beside each other.
func samples() []string {
	l := []string{"", "a", "\xff", "ab", "a\"b", `a\b`, "é", "\xc3\xa9\xc3", "€uro", "\U0001f600!", "\uFFFD", "\xef\xbf", "\xef\xbf\xbd\xbd", "\xed\xa0\x80", "\xf4\x90\x80\x80", "\xc0\x80", "\x00\x01\x7f", "\n\t\r\v", `\x41`, `\"`, `\\`, `"`, strings.Repeat("é", 100), strings.Repeat("\x80", 100)}
	for _, a := range edges {
		for _, b := range edges {
			l = append(l, string([]byte{a, b}), string([]byte{'-', a, 0x80, b}), string([]byte{a, 0x9f, 0xbf, b, '-'}))
		}
	}
	return l
}

// encode returns the number u in the form of UTF-8 with n bytes, whether or not this is well formed.
func encode(u rune, n int) string {
	if n == 1 {
		return string([]byte{byte(u)})
	}
	b := make([]byte, n)
	for i := n - 1; i > 0; i-- {
		b[i] = 0x80 | byte(u&0x3f)
		u >>= 6
	}
	b[0] = byte(rune(0xf00)>>n | u)
	return string(b)
}

func expectParts(t *testing.T, s string, bad, count int) {
	t.Helper()
	if got := Valid(s); got != (bad < 0) {
		t.Errorf("Valid(%x) is %v", s, got)
	}
	if got := Bad(s); got != bad {
		t.Errorf("Bad(%x) = %d, expected %d", s, got, bad)
	}
	if got := Count(s); got != count {
		t.Errorf("Count(%x) = %d, expected %d", s, got, count)
	}
}

func expectUnquote(t *testing.T, s, text string, n int, e api.Errno) {
	t.Helper()
	gotText, gotN, gotE := Unquote(s)
	if gotText != text || gotN != n || gotE != e {
		t.Errorf("Unquote(%q) = %q, %d, %v; expected %q, %d, %v", s, gotText, gotN, gotE, text, n, e)
	}
}

func expectUnhex(t *testing.T, s, bytes string, e api.Errno) {
	t.Helper()
	if got, gotE := Unhex(s); got != bytes || gotE != e {
		t.Errorf("Unhex(%q) = %q, %v; expected %q, %v", s, got, gotE, bytes, e)
	}
}

// P3.1: examples, with the wrong bytes that the chapter names.
func TestPartsExamples(t *testing.T) {
	for _, c := range []struct {
		s          string
		bad, count int
	}{
		{"", -1, 0},
		{"a", -1, 1},
		{"\x00\x7f", -1, 2},
		{"aé€\U0001f600", -1, 4},
		{"a\xc3(", 1, 3},
		{"\xed\xa0\x80", 0, 3},              // the first surrogate
		{"\xed\xbf\xbf", 0, 3},              // the last one
		{"\xed\x9f\xbf\xee\x80\x80", -1, 2}, // the numbers around them
		{"\xc0\x80", 0, 2},                  // overlong forms
		{"\xc1\xbf", 0, 2},
		{"\xe0\x9f\xbf", 0, 3},
		{"\xf0\x8f\xbf\xbf", 0, 4},
		{"\xf4\x8f\xbf\xbf", -1, 1}, // the greatest number, and one more
		{"\xf4\x90\x80\x80", 0, 4},
		{"\xf5\x80\x80\x80", 0, 4},
		{"\xf8\x88\x80\x80\x80", 0, 5},
		{"\xfe\xff", 0, 2},
		{"é\x80", 2, 2}, // a byte too many
		{"€\xe2\x82", 3, 3},
		{"\xe2\x82a", 0, 3}, // sequences that end early
		{"\xf0\x9f\x98", 0, 3},
		{"\xf0\x9f\x98\xc3\xa9", 0, 4},
		{"\xc3\xc3\xa9", 0, 2},
		{"ab\xffcd\xff", 2, 6},
	} {
		expectParts(t, c.s, c.bad, c.count)
	}
}

// P3.1: U+FFFD in a text is a part like others, beside wrong bytes, too.
func TestReplacementCharacter(t *testing.T) {
	expectParts(t, "\uFFFD", -1, 1)
	expectParts(t, "a\uFFFD\uFFFDb", -1, 4)
	expectParts(t, "\uFFFD\xff", 3, 2)
	expectParts(t, "\xff\uFFFD", 0, 2)
	expectParts(t, "\xef\xbf", 0, 2)
	expectParts(t, "\xef\uFFFD", 0, 2)
	expectParts(t, "\xef\xbf\xef\xbf\xbd", 0, 3)
	expectParts(t, "\uFFFD\xbd", 3, 2)
}

// P3.1: the table of the chapter, at the ends of all of its ranges.
func TestPartsTable(t *testing.T) {
	strings2to4(func(s string) {
		bad, count, _ := divide(s)
		expectParts(t, s, bad, count)
	})
}

// P3.1: each number in each length is well formed just if it is no surrogate, not above U+10FFFF, and not overlong.
func TestNumbers(t *testing.T) {
	firsts := []rune{0, 0x80, 0x800, 0x10000, 0x110000}
	for u := rune(0); u < 0x200000; u++ {
		for n := 1; n <= 4; n++ {
			if n < 4 && u >= []rune{0x80, 0x800, 0x10000}[n-1] {
				continue
			}
			good := firsts[n-1] <= u && u < firsts[n] && (u < 0xd800 || u > 0xdfff)
			if s := encode(u, n); Valid(s) != good {
				t.Errorf("Valid(%x) is not %v", s, good)
			}
		}
	}
}

// P3.1: wrong bytes anywhere in longer texts; the first one is found, and each of them counts.
func TestPartsLong(t *testing.T) {
	text := strings.Repeat("a€", 50)
	for i := range 101 {
		at := i/2*4 + i%2
		s := text[:at] + "\xff" + text[at:]
		expectParts(t, s, at, 101)
		expectParts(t, s+"\xfe", at, 102)
	}
	expectParts(t, text, -1, 100)
}

// P3.2: examples.
func TestQuoteExamples(t *testing.T) {
	for _, c := range [][2]string{
		{"", `""`},
		{"a", `"a"`},
		{"a\"\n\x00é\xff", `"a\"\n\x00é\xff"`},
		{"\\\t\r", `"\\\t\r"`},
		{"\v\x1f \x7e\x7f\u0080", "\"\\x0b\\x1f ~\\x7f\u0080\""},
		{"'/`", "\"'/`\""},
		{"\xed\xa0\x80", `"\xed\xa0\x80"`},
		{"\xc3(", `"\xc3("`},
		{"\uFFFD\xef\xbf", "\"\uFFFD\\xef\\xbf\""},
		{"€\U0001f600\U0010ffff", "\"€\U0001f600\U0010ffff\""},
		{`\x41`, `"\\x41"`},
		{"\u2028\ufeff", "\"\u2028\ufeff\""},
	} {
		if got := Quote(c[0]); got != c[1] {
			t.Errorf("Quote(%x) = %s, expected %s", c[0], got, c[1])
		}
	}
	if n := len(Quote("a\"\n\x00é\xff")); n != 17 {
		t.Errorf("example 2 has %d bytes", n)
	}
}

// P3.2: the form of each part, alone and beside others.
func TestQuoteParts(t *testing.T) {
	quote := func(s string) {
		if _, _, want := divide(s); Quote(s) != want {
			t.Errorf("Quote(%x) = %s, expected %s", s, Quote(s), want)
		}
	}
	strings2to4(quote)
	for _, s := range samples() {
		quote(s)
	}
	for u := rune(0); u < 0x110000; u += 7 {
		quote(string(u) + "\xff")
	}
}

// P3.3: examples; what follows the quoted form plays no part.
func TestUnquoteExamples(t *testing.T) {
	for _, c := range []struct {
		s, text string
		n       int
	}{
		{`""`, "", 2},
		{`"a" b`, "a", 3},
		{`"""`, "", 2},
		{`""a"`, "", 2},
		{"\"a\"\xff\n\\", "a", 3},
		{`"a\"b"`, `a"b`, 6},
		{`"\\"`, `\`, 4},
		{`"\\\\"n"`, `\\`, 6},
		{`"\n\t\r"`, "\n\t\r", 8},
		{`"\x00\x1f\x7f"`, "\x00\x1f\x7f", 14},
		{`"\xff\xc3("`, "\xff\xc3(", 11},
		{`"\xed\xa0\x80"`, "\xed\xa0\x80", 14},
		{`"é€"`, "é€", 7},
		{"\"\uFFFD\"", "\uFFFD", 5},
		{`"\xefn"`, "\xefn", 7},
		{`"\\x41"`, `\x41`, 7},
		{`"a\"\n\x00é\xff"`, "a\"\n\x00é\xff", 17},
	} {
		expectUnquote(t, c.s, c.text, c.n, api.OK)
	}
}

// P3.3: strings that begin with no quoted form, because it does not begin or does not end.
func TestUnquoteEnds(t *testing.T) {
	for _, s := range []string{"", `"`, `a"`, `"a`, `a`, ` "a"`, `'a'`, `\"a"`, `"\`, `"\"`, `"a\"`, `"\\\"`, `"\n`, `"\x`, `"\xf`, `"\xff`, `"\x"`, `"\xf"`, "\xff\"a\"", `"é`} {
		expectUnquote(t, s, "", 0, api.ErrSyntax)
	}
	form := Quote("a\"b\\\n\x00é\xff\U0001f600")
	for n := range len(form) {
		expectUnquote(t, form[:n], "", 0, api.ErrSyntax)
	}
}

// P3.3: other notations of bytes than those of the quoted form.
func TestUnquoteOtherNotations(t *testing.T) {
	for _, s := range []string{`\x41`, `\x0a`, `\x09`, `\x0d`, `\x22`, `\x5c`, `\x20`, `\x7e`, `\xC3`, `\xFF`, `\x0B`, `\x1F`, `\xc3\xa9`, `\xe2\x82\xac`, `\xef\xbf\xbd`, `\xf0\x9f\x98\x80`, "\\xc3\xa9", "\xc3\\xa9", "\xe2\x82\\xac", "\xff", "\x80", "\xc3", "\xc3(", "\xed\xa0\x80", "\x00", "\n", "\t", "\r", "\x1f", "\x7f", `\a`, `\b`, `\f`, `\v`, `\0`, `\000`, `\'`, `\/`, `\N`, `\X00`, `\xg0`, `\x0g`, `\x 0`, `\x-1`, `\x`, `\u00e9`, `\u0000`, `\é`, `\ `, "\\\n", "\\\xff"} {
		expectUnquote(t, `"`+s+`"`, "", 0, api.ErrSyntax)
		expectUnquote(t, `"ab`+s+`xy" "z"`, "", 0, api.ErrSyntax)
		expectUnquote(t, `"é\x00`+s+`\x00€"`, "", 0, api.ErrSyntax)
	}
}

// P3.3: each byte behind a backslash, and each pair of digits, is accepted only as the definition says.
func TestUnquoteEscapes(t *testing.T) {
	for c := range 256 {
		s := `"\` + string([]byte{byte(c)}) + `" x`
		if k := strings.IndexByte(`"\ntr`, byte(c)); k >= 0 {
			expectUnquote(t, s, "\"\\\n\t\r"[k:k+1], 4, api.OK)
		} else {
			expectUnquote(t, s, "", 0, api.ErrSyntax)
		}
		for d := range 256 {
			s := `"\x` + string([]byte{byte(c), byte(d)}) + `"`
			high := strings.IndexByte("0123456789abcdef", byte(c))
			low := strings.IndexByte("0123456789abcdef", byte(d))
			u := 16*high + low
			if high < 0 || low < 0 || u > 31 && u < 127 || u == 9 || u == 10 || u == 13 {
				expectUnquote(t, s, "", 0, api.ErrSyntax)
			} else {
				expectUnquote(t, s, string([]byte{byte(u)}), 6, api.OK)
			}
		}
	}
}

// words calls f with all strings of up to n of the letters.
func words(letters string, n int, f func(string)) {
	all := []string{""}
	for ; n >= 0; n-- {
		var longer []string
		for _, s := range all {
			f(s)
			for i := range len(letters) {
				longer = append(longer, s+letters[i:i+1])
			}
		}
		all = longer
	}
}

// P3.3: of all short strings just those are accepted that begin with one of all quoted forms.
func TestUnquoteAll(t *testing.T) {
	texts := map[string]string{}
	words("\"\\nx0c\n\x00\x0c\xc0\xcc\xc3\xa9", 4, func(s string) {
		_, _, form := divide(s)
		texts[form] = s
	})
	words("\"\\nx0c\n\xc3\xa9", 6, func(s string) {
		want, n := "", 0
		for i := range len(s) + 1 {
			if text, ok := texts[s[:i]]; ok {
				want, n = text, i
			}
		}
		if n > 0 {
			expectUnquote(t, s, want, n, api.OK)
		} else {
			expectUnquote(t, s, "", 0, api.ErrSyntax)
		}
	})
}

// P3.4: two digits for each byte, the more significant one first.
func TestHex(t *testing.T) {
	for _, c := range [][2]string{{"", ""}, {"\x00\xab", "00ab"}, {"\x01\x10", "0110"}, {"\xff", "ff"}, {"Az\n", "417a0a"}, {"é\xc3", "c3a9c3"}, {"\x89\xef\xcd", "89efcd"}} {
		if got := Hex(c[0]); got != c[1] {
			t.Errorf("Hex(%q) = %q, expected %q", c[0], got, c[1])
		}
		expectUnhex(t, c[1], c[0], api.OK)
	}
}

// P3.4: Unhex accepts nothing but pairs of digits.
func TestUnhexErrors(t *testing.T) {
	for _, s := range []string{"0", "00AB", "aB", "Ab", "000", "0g", "g0", "00 ", " 00", "0 0", "0x", "0x00", "-1", "+1", "00\n", "é", "\x00\x00", "00ab0", "00abG0", "00ab0G", "0\xff"} {
		expectUnhex(t, s, "", api.ErrSyntax)
	}
	for n := 1; n < 100; n += 2 {
		expectUnhex(t, strings.Repeat("a", n), "", api.ErrSyntax)
	}
}

// P3.4: all pairs of bytes, of which the digits are accepted.
func TestUnhexAll(t *testing.T) {
	for a := range 256 {
		for b := range 256 {
			s := string([]byte{byte(a), byte(b)})
			high := strings.IndexByte("0123456789abcdef", byte(a))
			low := strings.IndexByte("0123456789abcdef", byte(b))
			if high < 0 || low < 0 {
				expectUnhex(t, s, "", api.ErrSyntax)
				expectUnhex(t, "12"+s+"34", "", api.ErrSyntax)
			} else {
				u := string([]byte{byte(16*high + low)})
				expectUnhex(t, s, u, api.OK)
				expectUnhex(t, "12"+s+"34", "\x12"+u+"\x34", api.OK)
			}
		}
	}
}

// P3.5: Unquote inverts Quote, whatever follows, and the quoted form has neither wrong nor control bytes.
func TestQuoteInverse(t *testing.T) {
	inverse := func(s string) {
		form := Quote(s)
		for _, rest := range []string{"", `"`, `"a"`, `\`, "a", "\xa9", "\xff\n"} {
			expectUnquote(t, form+rest, s, len(form), api.OK)
		}
		if bad, _, _ := divide(form); bad >= 0 || !Valid(form) {
			t.Errorf("Quote(%x) = %x is not valid", s, form)
		}
		if strings.ContainsFunc(form, func(r rune) bool { return r < 32 || r == 127 }) {
			t.Errorf("Quote(%x) = %q has control bytes", s, form)
		}
	}
	for _, s := range samples() {
		inverse(s)
		inverse(Quote(s))
		inverse("é" + s)
	}
	for a := range 256 {
		inverse(string([]byte{byte(a)}))
		inverse(string([]byte{byte(a), 0x80}))
	}
}

// P3.5: what is accepted is the quoted form of what is returned; each byte of quoted forms is changed in turn.
func TestUnquoteIsQuoted(t *testing.T) {
	for _, text := range []string{"", "a\"b\\c", "\n\t\r\x00\x7f", "é\xff€\xc3", "\uFFFD\xed\xa0\x80", `\x41\n`} {
		form := Quote(text)
		for i := range len(form) {
			for c := range 256 {
				s := form[:i] + string([]byte{byte(c)}) + form[i+1:]
				got, n, e := Unquote(s)
				if _, _, want := divide(got); e == api.OK && want != s[:n] {
					t.Errorf("Unquote(%q) = %q, %d", s, got, n)
				}
			}
		}
	}
}

// P3.6: Unhex and Hex undo each other.
func TestHexInverse(t *testing.T) {
	for _, s := range samples() {
		form := Hex(s)
		if len(form) != 2*len(s) {
			t.Errorf("Hex(%q) = %q", s, form)
		}
		expectUnhex(t, form, s, api.OK)
		for _, digits := range []string{s, form + s, form[:len(form)/2]} {
			if bytes, e := Unhex(digits); e == api.OK && Hex(bytes) != digits {
				t.Errorf("Hex(%q) is not %q", bytes, digits)
			}
		}
	}
	for c := range 256 {
		s := string([]byte{byte(c)})
		expectUnhex(t, Hex(s), s, api.OK)
	}
}

// P3.7: behind a valid text the parts are those of what follows.
func TestConcatenation(t *testing.T) {
	var l []string
	for i, s := range samples() {
		if i < 30 || i%11 == 0 {
			l = append(l, s)
		}
	}
	for _, a := range l {
		if bad, _, _ := divide(a); bad >= 0 {
			continue
		}
		for _, b := range l {
			bad := Bad(b)
			if bad >= 0 {
				bad += len(a)
			}
			expectParts(t, a+b, bad, Count(a)+Count(b))
			if got, want := Quote(a+b), strings.TrimSuffix(Quote(a), `"`)+Quote(b)[1:]; got != want {
				t.Errorf("Quote(%x) = %s, expected %s", a+b, got, want)
			}
		}
	}
}

// P3.7: the text in front has to be valid: two wrong bytes may be a sequence together.
func TestConcatenationOfWrongBytes(t *testing.T) {
	expectParts(t, "\xc3", 0, 1)
	expectParts(t, "\xa9", 0, 1)
	expectParts(t, "\xc3"+"\xa9", -1, 1)
	expectParts(t, "\xe2\x82"+"\xac", -1, 1)
	expectParts(t, "\xe2\x82"+"\xad\xac", 3, 2)
}

// The time grows with the length only: texts of a megabyte are quoted and read in no noticeable time.
func TestLong(t *testing.T) {
	for _, s := range []string{"a", "\x00", "é", "\xff", `"`, `\`, "\uFFFD"} {
		s = strings.Repeat(s, 1<<20)
		expectUnquote(t, Quote(s)+"a", s, len(Quote(s)), api.OK)
		expectUnhex(t, Hex(s), s, api.OK)
		if Count(s) != 1<<20 {
			t.Errorf("Count of a long text: %d", Count(s))
		}
	}
}

// 0.1, 0.3: no string makes a function panic, and with an error the other results are zero.
func FuzzUtf(f *testing.F) {
	for _, s := range []string{"", `"`, `"a" b`, `"\`, `"\x`, `"\xf`, `"\xff"`, `"\n"`, "\xed\xa0\x80", "\xf0\x9f\x98", "00ab", "00AB", "0", "\uFFFD"} {
		f.Add(s)
	}
	f.Fuzz(func(t *testing.T, s string) {
		bad, count, form := divide(s)
		expectParts(t, s, bad, count)
		if Quote(s) != form {
			t.Errorf("Quote(%x) = %q", s, Quote(s))
		}
		expectUnquote(t, form+s, s, len(form), api.OK)
		for _, q := range []string{s, `"` + s, `"` + s + `"`} {
			text, n, e := Unquote(q)
			if _, _, form := divide(text); e == api.OK && form != q[:n] || e != api.OK && (text != "" || n != 0 || e != api.ErrSyntax) {
				t.Errorf("Unquote(%q) = %q, %d, %v", q, text, n, e)
			}
		}
		expectUnhex(t, Hex(s), s, api.OK)
		if b, e := Unhex(s); e == api.OK && Hex(b) != s || e != api.OK && (b != "" || e != api.ErrSyntax) {
			t.Errorf("Unhex(%q) = %q, %v", s, b, e)
		}
	})
}
