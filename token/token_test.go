package token

import (
	"fmt"
	"regexp"
	"slices"
	"strconv"
	"strings"
	"testing"

	"wireschema/api"
)

const allSigns = "{}[]()<>=;,@-"

func name(s string) api.Token { return api.Token{Kind: api.TkName, Text: s} }
func num(n int) api.Token     { return api.Token{Kind: api.TkInt, Num: n} }
func text(s string) api.Token { return api.Token{Kind: api.TkText, Text: s} }
func sign(s string) api.Token { return api.Token{Kind: api.TkSign, Text: s} }

// at returns the token with this line.
func at(line int, t api.Token) api.Token {
	t.Line = line
	return t
}

// on returns the tokens with this line.
func on(line int, l ...api.Token) []api.Token {
	l = slices.Clone(l)
	for i := range l {
		l[i].Line = line
	}
	return l
}

// fullOf returns a full name of n bytes, with parts of at most MaxName bytes.
func fullOf(n int) string {
	b := []byte(strings.Repeat("a", n))
	for i := api.MaxName - 1; i < n-1; i += api.MaxName {
		b[i] = '.'
	}
	return string(b)
}

// over returns all strings of up to n of the pieces.
func over(pieces []string, n int) []string {
	all := []string{""}
	for from := 0; n > 0; n-- {
		to := len(all)
		for _, s := range all[from:to] {
			for _, c := range pieces {
				all = append(all, s+c)
			}
		}
		from = to
	}
	return all
}

// reference scans texts of ASCII by expressions that repeat the definitions.
type reference struct{ gap, name, number, quoted *regexp.Regexp }

func newReference() reference {
	return reference{
		gap:    regexp.MustCompile(`^(?:[ \t\r\n]|//[^\n]*)`),
		name:   regexp.MustCompile(`^\.?[A-Za-z][A-Za-z0-9_]*(?:\.[A-Za-z][A-Za-z0-9_]*)*`),
		number: regexp.MustCompile(`^[0-9]+`),
		quoted: regexp.MustCompile(`^"(?:[ !#-\[\]-~]|\\["\\ntr]|\\x(?:0[0-8bcef]|1[0-9a-f]|7f))*"`),
	}
}

func (r reference) scan(src string) ([]api.Token, int, api.Errno) {
	var l []api.Token
	for at := 0; at < len(src); {
		if gap := r.gap.FindString(src[at:]); gap != "" {
			at += len(gap)
			continue
		}
		line := 1 + strings.Count(src[:at], "\n")
		t, n, e := r.token(src[at:])
		if e != api.OK {
			return nil, line, e
		}
		t.Line = line
		l = append(l, t)
		at += n
	}
	return l, 0, api.OK
}

// token returns the token that s begins with.
func (r reference) token(s string) (api.Token, int, api.Errno) {
	if s := r.name.FindString(s); s != "" {
		full := strings.TrimPrefix(s, ".")
		tooLong := func(part string) bool { return len(part) > 40 }
		if len(full) > 120 || slices.ContainsFunc(strings.Split(full, "."), tooLong) {
			return api.Token{}, 0, api.ErrName
		}
		return name(s), len(s), api.OK
	}
	if digits := r.number.FindString(s); digits != "" {
		u, err := strconv.ParseUint(digits, 10, 64)
		switch next := strings.TrimPrefix(s, digits) + " "; {
		case next[0] == '_' || r.name.MatchString(next) && next[0] != '.':
			return api.Token{}, 0, api.ErrSyntax
		case len(digits) > 1 && digits[0] == '0':
			return api.Token{}, 0, api.ErrSyntax
		case err != nil:
			return api.Token{}, 0, api.ErrRange
		}
		return num(int(u)), len(digits), api.OK
	}
	if q := r.quoted.FindString(s); q != "" {
		u, err := strconv.Unquote(q)
		if err != nil {
			panic(q)
		}
		return text(u), len(q), api.OK
	}
	if strings.Contains(allSigns, s[:1]) {
		return sign(s[:1]), 1, api.OK
	}
	return api.Token{}, 0, api.ErrSyntax
}

// brief returns the tokens, or the first ones of many.
func brief(l []api.Token) string {
	s := fmt.Sprintf("%d tokens %+v", len(l), l[:min(len(l), 5)])
	return s[:min(len(s), 500)]
}

func expectScan(t *testing.T, src string, want ...api.Token) {
	t.Helper()
	if got, line, e := Scan(src); !slices.Equal(got, want) || line != 0 || e != api.OK {
		t.Errorf("Scan(%.200q) = %s, %d, %v; expected %s", src, brief(got), line, e, brief(want))
	}
}

func expectScanError(t *testing.T, src string, line int, e api.Errno) {
	t.Helper()
	if got, gotLine, gotE := Scan(src); len(got) != 0 || gotLine != line || gotE != e {
		t.Errorf("Scan(%.200q) = %s, %d, %v; expected %d, %v", src, brief(got), gotLine, gotE, line, e)
	}
}

// expectReference compares Scan with the reference, and prints what it returns.
func expectReference(t *testing.T, r reference, src string) {
	t.Helper()
	want, line, e := r.scan(src)
	if e != api.OK {
		expectScanError(t, src, line, e)
		return
	}
	expectScan(t, src, want...)
	expectPrintable(t, src, want)
}

func expectPrint(t *testing.T, want string, l ...api.Token) {
	t.Helper()
	if got := Print(l); got != want {
		t.Errorf("Print(%s) = %.200q, expected %.200q", brief(l), got, want)
	}
}

// expectInverse prints tokens that can be, and scans the text.
func expectInverse(t *testing.T, l []api.Token) {
	t.Helper()
	s := Print(l)
	if s == "" && len(l) > 0 {
		t.Errorf("Print(%s) is empty", brief(l))
	}
	got, line, e := Scan(s)
	if line != 0 || e != api.OK || len(got) != len(l) {
		t.Errorf("Scan(%.200q) = %s, %d, %v", s, brief(got), line, e)
		return
	}
	for i, a := range got {
		if b := l[i]; a.Kind != b.Kind || a.Text != b.Text || a.Num != b.Num {
			t.Errorf("token %d of Scan(%.200q) is %v, expected %v", i, s, a, b)
		}
	}
}

// expectPrintable prints the tokens of a text that is not near to the limit, and each of them alone.
func expectPrintable(t *testing.T, src string, l []api.Token) {
	t.Helper()
	expectInverse(t, l)
	for i := range l {
		expectInverse(t, l[i:i+1])
	}
	for i := 1; i < len(l); i++ {
		if l[i].Line < l[i-1].Line {
			t.Errorf("the lines of %q are not ascending: %s", src, brief(l))
		}
	}
}

// P7.1: the examples of the chapter.
func TestScanExamples(t *testing.T) {
	expectScan(t, "a.b = -12; // end", on(1, name("a.b"), sign("="), sign("-"), num(12), sign(";"))...)
	expectScanError(t, "\nx 01", 2, api.ErrSyntax)
	expectScanError(t, "0x1f", 1, api.ErrSyntax)
	expectScanError(t, "18446744073709551616", 1, api.ErrRange)
	expectScanError(t, "a..b", 1, api.ErrSyntax)
	expectScan(t, `.a"b"c`, on(1, name(".a"), text("b"), name("c"))...)
}

// P7.1: texts without tokens.
func TestScanNothing(t *testing.T) {
	for _, src := range []string{"", " ", "\t", "\r", "\n", " \t\r\n", "//", "//\n", "// a", "// a\n", "// 01 \" .. é \xff \x00", "//////", "// a // b\n//c\n", strings.Repeat("\n", 100), "//\r", "\r\n//\r\n"} {
		expectScan(t, src)
	}
}

// P7.1: a text of more than MaxSource bytes is ErrLimit in line 0, whatever is in it.
func TestScanLimit(t *testing.T) {
	for _, s := range []string{" ", "\n", ";", "a ", "1 ", "$", "\"", "\xff", "a", "0", "1", "é"} {
		expectScanError(t, strings.Repeat(s, 16385)[:16385], 0, api.ErrLimit)
		expectScanError(t, strings.Repeat(s, 20000), 0, api.ErrLimit)
	}
	expectScanError(t, "$ 01 "+strings.Repeat(" ", 16380), 0, api.ErrLimit)
	expectScanError(t, strings.Repeat(" ", 16384)+"$", 0, api.ErrLimit)
	expectScanError(t, `"`+strings.Repeat("a", 16383)+`"`, 0, api.ErrLimit)
}

// P7.1: texts of MaxSource bytes are scanned whole.
func TestScanLongest(t *testing.T) {
	expectScan(t, strings.Repeat(" ", 16384))
	expectScan(t, strings.Repeat("\n", 16384))
	expectScan(t, "//"+strings.Repeat("é", 8191))
	expectScan(t, strings.Repeat("\n", 16383)+"a", on(16384, name("a"))...)
	expectScan(t, strings.Repeat(" ", 16383)+";", on(1, sign(";"))...)
	expectScan(t, `"`+strings.Repeat("a", 16382)+`"`, on(1, text(strings.Repeat("a", 16382)))...)
	expectScan(t, strings.Repeat(";", 16384), on(1, slices.Repeat([]api.Token{sign(";")}, 16384)...)...)
	expectScan(t, strings.Repeat("a ", 8192), on(1, slices.Repeat([]api.Token{name("a")}, 8192)...)...)
	expectScanError(t, strings.Repeat(" ", 16383)+"$", 1, api.ErrSyntax)
	expectScanError(t, strings.Repeat("\n", 16383)+"$", 16384, api.ErrSyntax)
	expectScanError(t, strings.Repeat("a", 16384), 1, api.ErrName)
	expectScanError(t, strings.Repeat("1", 16384), 1, api.ErrRange)
	expectScanError(t, strings.Repeat("0", 16384), 1, api.ErrSyntax)
	expectScanError(t, `"`+strings.Repeat("a", 16383), 1, api.ErrSyntax)
}

// P7.1: comments reach up to the next line feed or the end, and what is in them plays no part.
func TestScanComments(t *testing.T) {
	expectScan(t, "a//b\nc", at(1, name("a")), at(2, name("c")))
	expectScan(t, "a// b // c\r\n//\n//d", on(1, name("a"))...)
	expectScan(t, "a//", on(1, name("a"))...)
	expectScan(t, "//\na", on(2, name("a"))...)
	expectScan(t, "// a\r b\t c\vd\n;", on(2, sign(";"))...)
	expectScan(t, "// \x00\xff\xc3 \" 01 $ ..\n1// 2", on(2, num(1))...)
	expectScan(t, "1//a", on(1, num(1))...)
	expectScan(t, "a.b//.c", on(1, name("a.b"))...)
	expectScan(t, `"//" "a//b"//"c`, on(1, text("//"), text("a//b"))...)
	expectScan(t, ";///;\n;", at(1, sign(";")), at(2, sign(";")))
	expectScanError(t, "a / b", 1, api.ErrSyntax)
	expectScanError(t, "a /", 1, api.ErrSyntax)
	expectScanError(t, "/", 1, api.ErrSyntax)
	expectScanError(t, "/ /", 1, api.ErrSyntax)
	expectScanError(t, "/\n/", 1, api.ErrSyntax)
	expectScanError(t, "/* a */", 1, api.ErrSyntax)
	expectScanError(t, "# a", 1, api.ErrSyntax)
	expectScanError(t, "//\n/", 2, api.ErrSyntax)
	expectScanError(t, "a.//\nb", 1, api.ErrSyntax)
}

// P7.1: the longest possible names, with a dot before them and without; keywords are names.
func TestScanNames(t *testing.T) {
	for _, s := range []string{"a", "Z", "a_", "a__1", "a1b2", "aB.c_.D9", "a.b.c.d.e", "message", "true", "stream.rpc", "x0x1f", "nan"} {
		expectScan(t, s, on(1, name(s))...)
		expectScan(t, "."+s, on(1, name("."+s))...)
		expectScan(t, "("+s+"."+s+")", on(1, sign("("), name(s+"."+s), sign(")"))...)
		expectScan(t, "\n."+s+" ."+s, on(2, name("."+s), name("."+s))...)
	}
	expectScan(t, "a b", on(1, name("a"), name("b"))...)
	expectScan(t, "a .b", on(1, name("a"), name(".b"))...)
	expectScan(t, "a\n.b", at(1, name("a")), at(2, name(".b")))
	expectScan(t, "a-b", on(1, name("a"), sign("-"), name("b"))...)
}

// P7.1: a dot that no letter directly follows belongs to no name, and no token begins with it.
func TestScanDots(t *testing.T) {
	for _, s := range []string{".", "..", "..a", ". a", ".1", "._a", ".\na", ".-", ".\"a\"", ".é", ".\xff", "...", ".//a", ".;", ".[", ".`", ".{", ".@", ".a.", ".a..b", "a.", "a. b", "a.1", "a._b", "a..b", "a.b.", "a.b.1", "a.b..c", "a.\"b\"", "a.-", "a.\tb", "1.5", "1.", "1..a", "a;.", "\"a\"."} {
		expectScanError(t, s, 1, api.ErrSyntax)
		expectScanError(t, "\n"+s+" ", 2, api.ErrSyntax)
	}
	expectScan(t, "1.a", on(1, num(1), name(".a"))...)
	expectScan(t, "\"a\".b.c", on(1, text("a"), name(".b.c"))...)
	expectScan(t, ";.b", on(1, sign(";"), name(".b"))...)
}

// P7.1: parts of MaxName bytes and names of MaxFull bytes are the longest ones.
func TestScanLongNames(t *testing.T) {
	part := strings.Repeat("a", 40)
	for _, s := range []string{part, part + ".b", "b." + part, "b." + part + ".c", fullOf(120), fullOf(119), part + "." + part + "." + part[:38], strings.Repeat("a.", 59) + "bc"} {
		expectScan(t, s+";", on(1, name(s), sign(";"))...)
		expectScan(t, "."+s+" a", on(1, name("."+s), name("a"))...)
	}
	for _, s := range []string{part + "b", part + "b.c", "c." + part + "b", "c." + part + "b.d", part + "_", part + "1", fullOf(121), fullOf(122), part + "." + part + "." + part[:39], strings.Repeat("a.", 60) + "b", part + part, strings.Repeat("a.", 4000) + "b"} {
		expectScanError(t, s, 1, api.ErrName)
		expectScanError(t, "."+s, 1, api.ErrName)
		expectScanError(t, "\na;\n."+s+".\n01", 3, api.ErrName)
	}
	// The dot that is the 121st byte belongs to no name, since no letter follows it.
	expectScanError(t, fullOf(120)+".1", 1, api.ErrSyntax)
	expectScanError(t, fullOf(120)+".b", 1, api.ErrName)
	expectScan(t, part+"-"+part, on(1, name(part), sign("-"), name(part))...)
}

// P7.1: integers are wrapped from 2^63 on, and end at 2^64 - 1.
func TestScanIntegers(t *testing.T) {
	for _, c := range []struct {
		s string
		n int
	}{
		{"0", 0}, {"1", 1}, {"9", 9}, {"10", 10}, {"100", 100}, {"65535", 65535}, {"4294967296", 1 << 32},
		{"9223372036854775806", 1<<63 - 2},
		{"9223372036854775807", 1<<63 - 1},
		{"9223372036854775808", -1 << 63},
		{"9223372036854775809", -1<<63 + 1},
		{"10000000000000000000", -8446744073709551616},
		{"18446744073709551614", -2},
		{"18446744073709551615", -1},
	} {
		expectScan(t, c.s, on(1, num(c.n))...)
		expectScan(t, "\n-"+c.s+"-", on(2, sign("-"), num(c.n), sign("-"))...)
		expectScan(t, c.s+" "+c.s, on(1, num(c.n), num(c.n))...)
	}
	for _, s := range []string{"18446744073709551616", "18446744073709551617", "18446744073709551620", "20000000000000000000", "99999999999999999999", "100000000000000000000", "36893488147419103232", "340282366920938463463374607431768211456", strings.Repeat("9", 1000)} {
		expectScanError(t, s, 1, api.ErrRange)
		expectScanError(t, ";\n"+s+";", 2, api.ErrRange)
	}
}

// P7.1: integers with superfluous zeros, and those directly followed by a letter or an underscore, however large they are.
func TestScanWrongIntegers(t *testing.T) {
	for _, s := range []string{"00", "01", "000", "0000000000000000000000001", "018446744073709551616", "09", "-01", "a 01", "1a", "0x1f", "0a", "1_", "1_000", "0_", "1e5", "12Z", "1z", "1A", "18446744073709551616a", "18446744073709551615_", "99999999999999999999999_", "01a", "00.a"} {
		expectScanError(t, s, 1, api.ErrSyntax)
		expectScanError(t, "\n\n"+s+" 1", 3, api.ErrSyntax)
	}
	expectScan(t, "0 0", on(1, num(0), num(0))...)
	expectScan(t, "1\"a\"1", on(1, num(1), text("a"), num(1))...)
	expectScan(t, "0-0", on(1, num(0), sign("-"), num(0))...)
}

// P7.1: strings are quoted forms, and nothing else.
func TestScanTexts(t *testing.T) {
	expectScan(t, `""`, on(1, text(""))...)
	expectScan(t, `"a""b"`, on(1, text("a"), text("b"))...)
	expectScan(t, `"a\n\t\r\"\\b"`, on(1, text("a\n\t\r\"\\b"))...)
	expectScan(t, `"é€😀"`, on(1, text("é€😀"))...)
	expectScan(t, `"\x00\xff\xc3("`, on(1, text("\x00\xff\xc3("))...)
	expectScan(t, `"\x07\x08\x0b\x0c"`, on(1, text("\a\b\v\f"))...)
	expectScan(t, "\"\u0080\u00a0\u2028\ufeff\uFFFD\"", on(1, text("\u0080\u00a0\u2028\ufeff\uFFFD"))...)
	expectScan(t, `"; { } .. 01"`, on(1, text("; { } .. 01"))...)
	expectScan(t, "\n\"a\\nb\"\n\"\"", at(2, text("a\nb")), at(3, text("")))
	for _, s := range []string{`"`, `"a`, `"a\"`, `"\`, `"\x41"`, `"\x0a"`, `"\xC3"`, `"\xc3\xa9"`, `"\a"`, "\"\n\"", "\"a\nb\"", "\"\t\"", "\"\xff\"", "\"\x7f\"", "\"\xc3\"", `""" a`, `'a'`, "`a`", `"//`, "\"\r\""} {
		expectScanError(t, s, 1, api.ErrSyntax)
		expectScanError(t, "a\n1"+s+"\n", 2, api.ErrSyntax)
	}
}

// P7.1: each byte, alone and at all sorts of places, against the reference.
func TestScanBytes(t *testing.T) {
	r := newReference()
	for b := range 256 {
		c := string([]byte{byte(b)})
		for _, src := range []string{c, c + c, c + "a", "a" + c, "a" + c + "b", "." + c, "a." + c, "." + c + "a", "0" + c, "1" + c, "1" + c + "1", "1" + c + "a", c + "0", c + "1", `"` + c, `"` + c + `"`, `""` + c, "/" + c, "//" + c, c + "/", c + "//", "//" + c + "a", " " + c + "\n$", "-" + c, "\n" + c + "\n" + c} {
			expectReference(t, r, src)
		}
	}
}

// P7.1: only the signs are signs; each of them is a token of its own, however many follow each other.
func TestScanSigns(t *testing.T) {
	var all []api.Token
	for _, c := range allSigns {
		all = append(all, sign(string(c)))
		expectScan(t, string(c), on(1, sign(string(c)))...)
		expectScan(t, "\n "+string(c)+string(c)+" a", on(2, sign(string(c)), sign(string(c)), name("a"))...)
	}
	if len(all) != 13 {
		t.Errorf("%d signs", len(all))
	}
	expectScan(t, allSigns, on(1, all...)...)
	for b := range 256 {
		c := string([]byte{byte(b)})
		if !strings.Contains(allSigns+" \t\r\nabcdefghijklmnopqrstuvwxyzABCDEFGHIJKLMNOPQRSTUVWXYZ0123456789", c) {
			expectScanError(t, c, 1, api.ErrSyntax)
			expectScanError(t, "a\n;"+c, 2, api.ErrSyntax)
		}
	}
	for _, s := range []string{"\u00a0", "\u2028", "\ufeffa", "\u0085", "\v", "\f", "\x00", "é", "К", "ａ", "١", "−", "_", "_a", "a é", "\uFFFD"} {
		expectScanError(t, s, 1, api.ErrSyntax)
	}
}

// P7.1, P7.4, P7.5: short texts of all sorts against the reference.
func TestScanShortTexts(t *testing.T) {
	r := newReference()
	for _, src := range over([]string{"a", "_", ".", "0", "1", `"`, `\`, "/", "\n", " ", ";", "-"}, 5) {
		expectReference(t, r, src)
	}
	for _, src := range over([]string{"a", ".b", "_", ".", "18446744073709551615", "6", "\"\\n", `"`, "//", "\r\n", "{"}, 5) {
		expectReference(t, r, src)
	}
}

// P7.1: the line is that in which a token begins, and that of the first wrong token.
func TestScanLines(t *testing.T) {
	expectScan(t, "a\n\nb // c\n// d\r\n \"e\"{\n\t1", at(1, name("a")), at(3, name("b")), at(5, text("e")), at(5, sign("{")), at(6, num(1)))
	expectScan(t, "a\rb\r\nc\n\rd", at(1, name("a")), at(1, name("b")), at(2, name("c")), at(3, name("d")))
	long := strings.Repeat("a", 41)
	for _, c := range []struct {
		src  string
		line int
		e    api.Errno
	}{
		{"a\n18446744073709551616\n01\n" + long + "$", 2, api.ErrRange},
		{"a\n01\n18446744073709551616\n" + long + "$", 2, api.ErrSyntax},
		{"a\n" + long + "\n18446744073709551616\n01$", 2, api.ErrName},
		{"18446744073709551616 " + long, 1, api.ErrRange},
		{long + " 18446744073709551616", 1, api.ErrName},
		{long + "$", 1, api.ErrName},
		{"18446744073709551616$", 1, api.ErrRange},
		{"18446744073709551616." + long, 1, api.ErrRange},
		{"\n\n\n$\n", 4, api.ErrSyntax},
		{"// a\n// b\n$", 3, api.ErrSyntax},
		{"\"a\\n\\n\"\n$", 2, api.ErrSyntax},
		{"\n\"a\nb\"", 2, api.ErrSyntax},
		{"a\r$", 1, api.ErrSyntax},
		{"a b c ; { } 1 2 3 \"d\"\n\n.", 3, api.ErrSyntax},
	} {
		expectScanError(t, c.src, c.line, c.e)
	}
	for n := 1; n < 50; n++ {
		expectScan(t, strings.Repeat("\n", n)+"a"+strings.Repeat("\n", n)+"b", at(n+1, name("a")), at(2*n+1, name("b")))
	}
}

// P7.2: the example of the chapter, and the layout of others.
func TestPrintExamples(t *testing.T) {
	expectPrint(t, "a.b = - 12 ;\n", name("a.b"), sign("="), sign("-"), num(12), sign(";"))
	expectPrint(t, "")
	expectPrint(t, "a", name("a"))
	expectPrint(t, "a b", name("a"), name("b"))
	expectPrint(t, ";\n", sign(";"))
	expectPrint(t, "{\n", sign("{"))
	expectPrint(t, "}\n", sign("}"))
	expectPrint(t, ";\n;\n{\n}\na", sign(";"), sign(";"), sign("{"), sign("}"), name("a"))
	expectPrint(t, "message M {\nplain u32 n = 1 [ since = 2 ] ;\n}\n", name("message"), name("M"), sign("{"), name("plain"), name("u32"), name("n"), sign("="), num(1), sign("["), name("since"), sign("="), num(2), sign("]"), sign(";"), sign("}"))
	expectPrint(t, `.a "" 0 .b`, name(".a"), text(""), num(0), name(".b"))
	expectPrint(t, `";" "{" "}" a`, text(";"), text("{"), text("}"), name("a"))
}

// P7.2: what follows each kind of token, between tokens and at the end.
func TestPrintSeparators(t *testing.T) {
	l := []api.Token{name("a"), name(".a.B_1"), num(0), num(-1), text("a\n"), text(";")}
	for _, c := range allSigns {
		l = append(l, sign(string(c)))
	}
	forms := []string{"a", ".a.B_1", "0", "18446744073709551615", `"a\n"`, `";"`}
	for _, c := range allSigns {
		forms = append(forms, string(c))
	}
	for i, a := range l {
		end, space := "", " "
		if forms[i] == ";" || forms[i] == "{" || forms[i] == "}" {
			end, space = "\n", "\n"
		}
		expectPrint(t, forms[i]+end, a)
		expectPrint(t, forms[i]+space+"x", a, name("x"))
		expectPrint(t, "x "+forms[i]+end, name("x"), a)
		expectPrint(t, "x "+forms[i]+space+forms[i]+end, name("x"), a, a)
	}
}

// P7.2: integers in decimal, and texts by their quoted forms.
func TestPrintNumbersAndTexts(t *testing.T) {
	for n, s := range map[int]string{0: "0", 1: "1", 10: "10", 1<<63 - 1: "9223372036854775807", -1 << 63: "9223372036854775808", -1: "18446744073709551615", -2: "18446744073709551614"} {
		expectPrint(t, s, num(n))
	}
	for s, want := range map[string]string{"": `""`, "a b": `"a b"`, "\"\\\n\t\r": `"\"\\\n\t\r"`, "\x00\x1f\x7f\xff\xc3": `"\x00\x1f\x7f\xff\xc3"`, "é€😀": `"é€😀"`, "//": `"//"`, "\a\b\v\f": `"\x07\x08\x0b\x0c"`, "\u0080\u00a0\u2028\ufeff\uFFFD": "\"\u0080\u00a0\u2028\ufeff\uFFFD\"", "\xed\xa0\x80": `"\xed\xa0\x80"`} {
		expectPrint(t, want, text(s))
	}
}

// P7.2: tokens that cannot be make the whole text empty, wherever they are.
func TestPrintWrongTokens(t *testing.T) {
	part := strings.Repeat("a", 40)
	wrong := []api.Token{{}, {Num: 1}, {Text: "a"}, {Kind: 5}, {Kind: 5, Text: "a"}, {Kind: 5, Num: 1}, {Kind: -1, Text: ";"}, {Kind: 1 << 62}, {Kind: -1 << 63, Text: ";"},
		{Kind: api.TkName, Text: "a", Num: 1}, {Kind: api.TkName, Text: "a", Num: -1}, {Kind: api.TkText, Text: "a", Num: 1}, {Kind: api.TkText, Num: -1 << 63}, {Kind: api.TkSign, Text: ";", Num: 1}, {Kind: api.TkSign, Text: "-", Num: -1},
		{Kind: api.TkInt, Text: "1"}, {Kind: api.TkInt, Text: "1", Num: 1}, {Kind: api.TkInt, Text: " "}, {Kind: api.TkInt, Text: "a", Num: -1}}
	for _, s := range []string{"", ".", "..", "..a", "a.", "a..b", ".a.", "a. b", " a", "a ", "a b", "a\n", "1", "1a", ".1", "_", "_a", "a._b", "a.1", "a-b", "é", "aé", "a\xff", "a\x00", ";", "\"a\"", "a//", "a;", part + "a", "." + part + "a", "b." + part + "a", fullOf(121), "." + fullOf(121), fullOf(130)} {
		wrong = append(wrong, name(s))
	}
	for _, s := range []string{"", "/", "//", ".", ":", "+", "--", "{}", "[]", "()", "<>", ";;", "=;", "; ", " ;", "-1", "a", "0", "\"", "_", "'", "*", "!", "|", "\\", " ", "\n", "\x00", "é", "\xff", "-\xff", "message", allSigns} {
		wrong = append(wrong, sign(s))
	}
	for _, w := range wrong {
		expectPrint(t, "", w)
		expectPrint(t, "", w, name("a"))
		expectPrint(t, "", name("a"), sign(";"), w)
		expectPrint(t, "", num(1), w, text(""))
		expectPrint(t, "", at(7, w))
	}
	for _, s := range []string{part, fullOf(120), "." + fullOf(120), "." + part, "inf", "a_", "rpc.stream"} {
		expectPrint(t, s, name(s))
	}
}

// P7.2: each byte as a sign, and at the beginning and inside of a name.
func TestPrintBytes(t *testing.T) {
	for b := range 256 {
		c := string([]byte{byte(b)})
		letter := regexp.MustCompile("^[A-Za-z]$").MatchString(c)
		inner := regexp.MustCompile("^[A-Za-z0-9_]$").MatchString(c)
		for s, ok := range map[string]bool{c: letter, "." + c: letter, "a." + c: letter, c + "a": letter || c == ".", "a" + c: inner, "a" + c + "b": inner || c == "."} {
			want := ""
			if ok {
				want = s
			}
			expectPrint(t, want, name(s))
		}
		if Print([]api.Token{sign(c)}) != "" != strings.Contains(allSigns, c) {
			t.Errorf("the sign %q", c)
		}
	}
}

// P7.2: no text is longer than MaxSource, with what follows its last token.
func TestPrintLimit(t *testing.T) {
	as := func(n int) string { return strings.Repeat("a", n) }
	expectPrint(t, `"`+as(16382)+`"`, text(as(16382)))
	expectPrint(t, `"`+as(16379)+"\" ;\n", text(as(16379)), sign(";"))
	expectPrint(t, `"`+as(16380)+`" -`, text(as(16380)), sign("-"))
	expectPrint(t, `"`+strings.Repeat(`\xff`, 4095)+`aa"`, text(strings.Repeat("\xff", 4095)+"aa"))
	expectPrint(t, strings.Repeat(";\n", 8192), slices.Repeat([]api.Token{sign(";")}, 8192)...)
	expectPrint(t, strings.Repeat("a ", 8191)+"a", slices.Repeat([]api.Token{name("a")}, 8192)...)
	expectPrint(t, strings.Repeat("0 ", 8191)+"10", append(slices.Repeat([]api.Token{num(0)}, 8191), num(10))...)
	expectPrint(t, strings.Repeat("0 ", 8191)+"{\n", append(slices.Repeat([]api.Token{num(0)}, 8191), sign("{"))...)
	expectPrint(t, strings.Repeat("0 ", 8190)+"10 -", append(slices.Repeat([]api.Token{num(0)}, 8190), num(10), sign("-"))...)
	for _, l := range [][]api.Token{
		{text(as(16383))}, {text(as(16384))}, {text(as(16385))}, {text(as(100000))},
		{text(as(16380)), sign(";")}, {text(as(16381)), sign("-")}, {text(as(16382)), sign("}")}, {text(as(16382)), name("a")},
		{text(strings.Repeat("\xff", 4095) + "aaa")}, {text(strings.Repeat("\xff", 4096))}, {text(strings.Repeat("\x00", 16382))},
		slices.Repeat([]api.Token{sign(";")}, 8193), slices.Repeat([]api.Token{name("a")}, 8193), slices.Repeat([]api.Token{num(1)}, 1000000),
		append(slices.Repeat([]api.Token{num(0)}, 8191), num(100)), append(slices.Repeat([]api.Token{num(0)}, 8190), num(10), sign("{")),
	} {
		expectPrint(t, "", l...)
	}
}

// P7.2, P7.3: lines are neither printed nor compared.
func TestLinesPlayNoPart(t *testing.T) {
	for _, line := range []int{-1 << 63, -1, 0, 1, 5, 1<<63 - 1} {
		expectPrint(t, "a ;\n1", at(line, name("a")), at(1, sign(";")), at(line, num(1)))
		if !Same([]api.Token{name("a"), at(3, num(1))}, []api.Token{at(line, name("a")), at(line, num(1))}) {
			t.Errorf("Same examines the line %d", line)
		}
		if !Is(at(line, name("a")), "a") || Is(at(line, name("a")), "b") {
			t.Errorf("Is examines the line %d", line)
		}
	}
}

// P7.3: Same compares kinds, texts and numbers at each place, of whatever tokens.
func TestSame(t *testing.T) {
	l := []api.Token{{}, {Num: 1}, {Num: -1}, {Text: "a"}, {Kind: 9}, name("a"), name("b"), name(".a"), name(""), text("a"), text(""), sign("a"), sign(";"), sign(""), num(0), num(1), num(-1), {Kind: api.TkInt, Text: "1", Num: 1}, {Kind: api.TkName, Text: "a", Num: 1}}
	for i, a := range l {
		for j, b := range l {
			for _, pair := range [][2][]api.Token{{{a}, {b}}, {{a, name("x")}, {b, name("x")}}, {{name("x"), a}, {name("x"), b}}, {{num(1), at(2, a), num(3)}, {num(1), b, num(3)}}} {
				if Same(pair[0], pair[1]) != (i == j) {
					t.Errorf("Same(%v, %v) is %v", pair[0], pair[1], i != j)
				}
			}
			if Same([]api.Token{a, b}, []api.Token{b, a}) != (i == j) {
				t.Errorf("Same of %v and %v in another order", a, b)
			}
		}
	}
}

// P7.3: lists of different lengths are not the same; two empty ones are.
func TestSameLengths(t *testing.T) {
	l := []api.Token{{}, {}, name("a"), {}, sign(";")}
	for i := range l {
		for j := range l {
			if Same(l[:i], l[:j]) != (i == j) {
				t.Errorf("Same of %d and %d tokens", i, j)
			}
		}
	}
	if !Same(nil, []api.Token{}) || !Same([]api.Token{}, nil) || !Same(nil, nil) || Same(nil, l[:1]) || Same(l[:1], nil) {
		t.Errorf("Same of no tokens")
	}
}

// P7.3: Is accepts signs and names with this text only.
func TestIs(t *testing.T) {
	texts := []string{"", "a", "message", "Message", ";", "{", "1", ".a", "a.b", "a "}
	for _, s := range texts {
		for _, want := range texts {
			for kind := -1; kind < 7; kind++ {
				ok := s == want && (kind == api.TkName || kind == api.TkSign)
				for _, n := range []int{0, 1, -1} {
					if Is(api.Token{Kind: kind, Text: s, Num: n}, want) != ok {
						t.Errorf("Is({%d %q}, %q) is not %v", kind, s, want, ok)
					}
				}
			}
		}
	}
	if Is(num(1), "1") || Is(text(";"), ";") || !Is(sign(";"), ";") || !Is(name("rpc"), "rpc") || Is(name("rpc"), "RPC") || Is(num(0), "") || Is(api.Token{}, "") {
		t.Errorf("Is")
	}
}

// P7.4: what can be printed is scanned again, whatever tokens stand beside each other.
func TestPrintInverse(t *testing.T) {
	l := []api.Token{name("a"), name(".b"), name("a_1.c"), num(0), num(12), num(-1), num(-1 << 63), text(""), text("a\"\n\xff//é"), text("\x00\v\x7f\u0080\u2028\uFFFD\xef\xbf"), name(fullOf(120)), name("." + fullOf(120))}
	for _, c := range allSigns {
		l = append(l, sign(string(c)))
	}
	expectInverse(t, l)
	for _, a := range l {
		expectInverse(t, []api.Token{a})
		for _, b := range l {
			expectInverse(t, []api.Token{a, b})
			for _, c := range l {
				expectInverse(t, []api.Token{a, b, c})
			}
		}
	}
	for n := range 8193 {
		if n%97 == 0 || n > 8185 {
			expectInverse(t, slices.Repeat([]api.Token{sign("{")}, n))
			expectInverse(t, slices.Repeat([]api.Token{num(7)}, n))
		}
	}
}

// P7.4: each token of a text can be printed, even if all of them together would be too long.
func TestScannedTokensPrint(t *testing.T) {
	part := strings.Repeat("Z_9", 13) + "a"
	for _, src := range []string{strings.Repeat(";", 16384), strings.Repeat("a;", 8192), strings.Repeat("-1", 8192), strings.Repeat(`""`, 8192), `"` + strings.Repeat("a", 16382) + `"`, `"` + strings.Repeat(`\xff`, 4095) + `aa"`, strings.Repeat("."+part+"."+part+"\n", 100), strings.Repeat(part+"\"\\n\"18446744073709551615{", 100)} {
		l, line, e := Scan(src)
		if len(l) == 0 || line != 0 || e != api.OK {
			t.Errorf("Scan(%.100q) = %d tokens, %d, %v", src, len(l), line, e)
		}
		for i := range l {
			expectInverse(t, l[i:i+1])
		}
	}
}

// P7.5: what stands between tokens changes nothing but lines.
func TestGaps(t *testing.T) {
	pieces := []string{"message", "M", "{", "plain", ".a.b", "n", "=", "-", "12", "[", "doc", "=", `"// \" {"`, ",", "x", "]", ";", "}", "0", ".c", "<", `""`, `"a"`}
	want, _, _ := Scan(strings.Join(pieces, " "))
	if len(want) != len(pieces) {
		t.Fatalf("%d tokens", len(want))
	}
	gaps := []string{" ", "\t", "\r", "\n", "\r\n", "  ", "\n\n", "//\n", "// a; \" 01 .. $\n", "//\n//\r\n\t// é\xff\n ", strings.Repeat("\n \t\r", 10)}
	for shift := range gaps {
		src, line := "", 1
		var lines []int
		for i, p := range pieces {
			gap := gaps[(i*i+shift)%len(gaps)]
			line += strings.Count(gap, "\n")
			lines = append(lines, line)
			src += gap + p
		}
		for _, end := range append(gaps, "", "//", "// a") {
			got, _, e := Scan(src + end)
			if e != api.OK || len(got) != len(want) {
				t.Errorf("Scan(%q) = %v, %v", src+end, got, e)
				continue
			}
			for i := range got {
				if got[i] != at(lines[i], want[i]) {
					t.Errorf("token %d of %q is %v, expected %v in line %d", i, src+end, got[i], want[i], lines[i])
				}
			}
			if !Same(got, want) {
				t.Errorf("the tokens of %q are not the same", src+end)
			}
			expectPrintable(t, src+end, got)
		}
	}
}

// 0.4: the arguments are not changed.
func TestArgumentsRemain(t *testing.T) {
	a, b := on(1, name("a"), num(1), sign(";")), on(2, name("a"), num(1), sign(";"))
	Print(a)
	Same(a, b)
	Same(b, a)
	if !slices.Equal(a, on(1, name("a"), num(1), sign(";"))) || !slices.Equal(b, on(2, name("a"), num(1), sign(";"))) {
		t.Errorf("changed arguments: %v, %v", a, b)
	}
}

// 0.1, 0.3: no text and no token makes a function panic, and with an error the other results are zero.
func FuzzToken(f *testing.F) {
	for _, s := range []string{"", "a.b = -12; // end", "\nx 01", "0x1f", "18446744073709551616", "a..b", `.a"b"c`, "/", "//", `"\`, "\xff", "{\n}", ".", "1_"} {
		f.Add(s, 1, 0)
	}
	f.Fuzz(func(t *testing.T, s string, kind, n int) {
		l, line, e := Scan(s)
		if e != api.OK && (len(l) != 0 || line < 0 || line > 1+strings.Count(s, "\n")) || e == api.OK && line != 0 {
			t.Errorf("Scan(%q) = %v, %d, %v", s, l, line, e)
		}
		if e == api.OK && len(s) < api.MaxSource/3 {
			expectPrintable(t, s, l)
		}
		a := api.Token{Kind: kind, Text: s, Num: n}
		if p := Print([]api.Token{a}); p != "" {
			expectInverse(t, []api.Token{a})
			if len(p) < api.MaxSource/3 {
				expectInverse(t, []api.Token{a, name("b"), a})
			}
		}
		if !Same([]api.Token{a}, []api.Token{at(n, a)}) || Is(a, s) != (kind == api.TkName || kind == api.TkSign) {
			t.Errorf("Same or Is of %v", a)
		}
	})
}
