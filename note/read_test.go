package note

import (
	"math"
	"math/big"
	"slices"
	"strings"
	"testing"
	"unicode/utf8"

	"wireschema/api"
	"wireschema/token"
)

func expectRead(t *testing.T, l []api.Token, at int, want []api.Note, end int) {
	t.Helper()
	if got, n, e := Read(l, at); !equal(got, want) || n != end || e != api.OK {
		t.Errorf("Read(%s, %d) = %s, %d, %v; expected %s, %d", brief(l), at, brief(got), n, e, brief(want), end)
	}
}

func expectReadError(t *testing.T, l []api.Token, at, end int, want api.Errno) {
	t.Helper()
	if got, n, e := Read(l, at); len(got) != 0 || n != end || e != want {
		t.Errorf("Read(%s, %d) = %s, %d, %v; expected %d, %v", brief(l), at, brief(got), n, e, end, want)
	}
}

// P8.6: the examples of the chapter.
func TestReadExamples(t *testing.T) {
	expectRead(t, tokens("[", "secret", "=", "true", "]"), 0, notes("secret", yes()), 5)
	expectReadError(t, tokens("[", "secret", "=", 1, "]"), 0, 3, api.ErrSyntax)
	expectReadError(t, tokens("[", "since", "=", 4294967296, "]"), 0, 3, api.ErrRange)
	expectReadError(t, tokens("[", "colour", "=", 1, "]"), 0, 1, api.ErrName)
	expectReadError(t, tokens("[", "]"), 0, 1, api.ErrSyntax)
}

// P8.6: without the sign [ at the index there are no annotations, which is no error.
func TestReadNothing(t *testing.T) {
	l := tokens("[", "secret", "=", "true", "]", "[", text("["), name("["), api.Token{Kind: api.TkInt, Text: "["}, api.Token{Text: "["}, api.Token{Kind: 5, Text: "["}, api.Token{Kind: -4, Text: "["}, sign("[["), sign(""), sign("]"), sign("[ "), sign("{"), sign("("), sign("<"), 0)
	for _, at := range []int{math.MinInt, math.MinInt + 1, -len(l), -5, -1, 1, 2, 3, 4, 6, 7, 8, 9, 10, 11, 12, 13, 14, 15, 16, 17, 18, 19, len(l), len(l) + 1, 100, math.MaxInt - 1, math.MaxInt} {
		expectRead(t, l, at, nil, at)
	}
	for _, at := range []int{math.MinInt, -1, 0, 1, math.MaxInt} {
		expectRead(t, nil, at, nil, at)
		expectRead(t, []api.Token{}, at, nil, at)
		expectRead(t, l[:0], at, nil, at)
	}
}

// P8.6: annotations of all kinds; what is before and behind them is not examined.
func TestReadSeveral(t *testing.T) {
	want := notes("alias", str("id"), "min", i64(-5), "secret", no(), "since", u32(7))
	src := `[alias = "id", min = -5, secret = false, since = 7]`
	inner := scan(t, src)
	for _, before := range []string{"", "[ [", "; message x", "= - ,"} {
		for _, after := range []string{"", "]", ", doc = 1", ";", "[ doc"} {
			at := len(scan(t, before))
			expectRead(t, scan(t, before+src+after), at, want, at+len(inner))
		}
	}
	expectRead(t, scan(t, "[\n deprecated=true // x\n]"), 0, notes("deprecated", yes()), 5)
	expectRead(t, scan(t, `[doc="a"] [doc="b"]`), 5, notes("doc", str("b")), 10)
	expectRead(t, scan(t, `[doc="a"] [doc="b"]`), 0, notes("doc", str("a")), 5)
}

// P8.6: Read does not call Check: order, repetition and number do not matter.
func TestReadDoesNotCheck(t *testing.T) {
	expectRead(t, scan(t, `[doc = "a", alias = "b", doc = "a"]`), 0, notes("doc", str("a"), "alias", str("b"), "doc", str("a")), 13)
	expectRead(t, scan(t, `[owner = "a", timeout = 1, secret = true]`), 0, notes("owner", str("a"), "timeout", u32(1), "secret", yes()), 13)
	for _, n := range []int{7, 8, 9, 10, 50} {
		l := slices.Concat(tokens("["), slices.Repeat(tokens("length", "=", 3, ","), n))
		l[len(l)-1] = sign("]")
		expectRead(t, l, 0, slices.Repeat(notes("length", u32(3)), n), 4*n+1)
	}
}

// P8.6: each known annotation with tokens of each kind as its value.
func TestReadValues(t *testing.T) {
	values := tokens("true", "false", text("id"), text(""), 0, 7, "-", ",", "]", "[", "=", "True", "id", "nan", text("true"), text("7"), ".true", "true.false", sign("true"), api.Token{}, api.Token{Kind: 5, Text: "true", Num: 7}, api.Token{Text: "true"}, api.Token{Kind: -1})
	for _, k := range chapter {
		for _, x := range values {
			l := []api.Token{sign("["), name(k.name), sign("="), x, sign("]")}
			v := api.Value{Kind: k.kind}
			ok := false
			switch k.kind {
			case api.KBool:
				ok = x == name("true") || x == name("false")
				if x == name("true") {
					v.Bits = 1
				}
			case api.KText:
				ok = x.Kind == api.TkText
				v.Text = x.Text
			default:
				ok = x.Kind == api.TkInt
				v.Bits = uint64(x.Num)
			}
			switch {
			case ok:
				expectRead(t, l, 0, notes(k.name, v), 5)
			case x == sign("-") && (k.kind == api.KU32 || k.kind == api.KI64):
				expectReadError(t, l, 0, 4, api.ErrSyntax)
			default:
				expectReadError(t, l, 0, 3, api.ErrSyntax)
			}
		}
	}
}

// integerReference returns the bits of an integer, or what is wrong with it.
func integerReference(kind int, minus bool, n uint64) (uint64, api.Errno) {
	x := new(big.Int).SetUint64(n)
	if minus && n == 0 {
		return 0, api.ErrSyntax
	}
	if minus {
		x.Neg(x)
	}
	limits := map[int][2]string{api.KU32: {"0", "4294967295"}, api.KI64: {"-9223372036854775808", "9223372036854775807"}}[kind]
	least, _ := new(big.Int).SetString(limits[0], 10)
	most, _ := new(big.Int).SetString(limits[1], 10)
	if x.Cmp(least) < 0 || x.Cmp(most) > 0 {
		return 0, api.ErrRange
	}
	if minus {
		return -n, api.OK
	}
	return n, api.OK
}

// P8.6: integers at the ends of all ranges, with the sign - and without; the index of an error is that of the integer, not of the sign.
func TestReadIntegers(t *testing.T) {
	var numbers []uint64
	for _, n := range []uint64{0, 5, 1 << 31, 1 << 32, 1 << 33, 1 << 62, 1 << 63, 1<<63 + 1<<32, 1<<64 - 1<<32, 1<<64 - 1<<31} {
		numbers = append(numbers, n-2, n-1, n, n+1, n+2)
	}
	for _, k := range chapter {
		if k.kind != api.KU32 && k.kind != api.KI64 {
			continue
		}
		for _, n := range numbers {
			for _, minus := range []bool{false, true} {
				before := tokens("[", k.name, "=")
				if minus {
					before = append(before, sign("-"))
				}
				at := len(before)
				l := append(before, num(n), sign("]"))
				bits, e := integerReference(k.kind, minus, n)
				if e == api.OK {
					expectRead(t, l, 0, notes(k.name, api.Value{Kind: k.kind, Bits: bits}), at+2)
				} else {
					expectReadError(t, l, 0, at, e)
					expectReadError(t, l[:at+1], 0, at, e)
				}
			}
		}
	}
	expectRead(t, scan(t, "[min = -9223372036854775808]"), 0, notes("min", i64(math.MinInt64)), 6)
	expectReadError(t, scan(t, "[min = 9223372036854775808]"), 0, 3, api.ErrRange)
	expectReadError(t, scan(t, "[min = -9223372036854775809]"), 0, 4, api.ErrRange)
	expectReadError(t, scan(t, "[min = -18446744073709551615]"), 0, 4, api.ErrRange)
	expectReadError(t, scan(t, "[min = -0]"), 0, 4, api.ErrSyntax)
	expectReadError(t, scan(t, "[since = -1]"), 0, 4, api.ErrRange)
	expectReadError(t, scan(t, "[since = -0]"), 0, 4, api.ErrSyntax)
	expectReadError(t, scan(t, "[since = 18446744073709551615]"), 0, 3, api.ErrRange)
}

// P8.6: the sign - is followed by an integer, and stands before nothing else.
func TestReadMinus(t *testing.T) {
	for _, s := range []string{"min", "max", "since", "until", "length", "timeout"} {
		for _, x := range tokens("-", "true", text("5"), "]", ",", "=", "[", sign("5"), name("5"), api.Token{Num: 5}) {
			expectReadError(t, tokens("[", s, "=", "-", x, "]"), 0, 4, api.ErrSyntax)
			expectReadError(t, tokens("[", s, "=", "-", x, 5, "]"), 0, 4, api.ErrSyntax)
		}
		expectReadError(t, tokens("[", s, "=", "-"), 0, 4, api.ErrSyntax)
		expectReadError(t, tokens("[", s, "=", name("-"), 5, "]"), 0, 3, api.ErrSyntax)
		expectReadError(t, tokens("[", s, "=", text("-"), 5, "]"), 0, 3, api.ErrSyntax)
		expectReadError(t, tokens("[", s, "=", 5, "-", "]"), 0, 4, api.ErrSyntax)
		expectReadError(t, tokens("[", s, "=", 5, 5, "]"), 0, 4, api.ErrSyntax)
	}
	for _, s := range []string{"secret", "deprecated", "idempotent", "doc", "alias", "route", "owner"} {
		for _, x := range tokens("true", text("a"), 5) {
			expectReadError(t, tokens("[", s, "=", "-", x, "]"), 0, 3, api.ErrSyntax)
		}
	}
}

// P8.6: strings of MaxText bytes, longer ones, and ones that are not valid UTF-8.
func TestReadStrings(t *testing.T) {
	part := strings.Repeat("é", 2047)
	for _, k := range chapter {
		if k.kind != api.KText {
			continue
		}
		for _, s := range []string{"", "a", "\x00\n\"", "\uFFFD", "\u00e9\u20ac\U0001F600", part + "xy", part + "é", strings.Repeat("\x00", 4096), strings.Repeat("x", 4095)} {
			expectRead(t, tokens("[", k.name, "=", text(s), "]"), 0, notes(k.name, str(s)), 5)
		}
		for _, s := range []string{part + "xyz", part + "éx", strings.Repeat("x", 4097), strings.Repeat("x", 100000), "\xff" + strings.Repeat("x", 4096), strings.Repeat("x", 4096) + "\xff", strings.Repeat("\xff", 4097)} {
			expectReadError(t, tokens("[", k.name, "=", text(s), "]"), 0, 3, api.ErrLimit)
			expectReadError(t, tokens("[", k.name, "=", text(s)), 0, 3, api.ErrLimit)
			expectReadError(t, tokens("[", k.name, "=", name(s), "]"), 0, 3, api.ErrSyntax)
		}
		for _, s := range []string{"\xff", "a\x80", "\xc3", "\xc3(", "\xed\xa0\x80", "\xc0\x80", "\xf4\x90\x80\x80", "\xf0\x9f\x98", strings.Repeat("x", 4095) + "\xff", "\xff" + strings.Repeat("x", 4095), strings.Repeat("\xff", 4096)} {
			if utf8.ValidString(s) {
				t.Fatalf("%q is valid", s)
			}
			expectReadError(t, tokens("[", k.name, "=", text(s), "]"), 0, 3, api.ErrUtf)
			expectReadError(t, tokens("[", k.name, "=", text(s)), 0, 3, api.ErrUtf)
			expectReadError(t, tokens("[", k.name, "=", name(s), "]"), 0, 3, api.ErrSyntax)
		}
	}
}

// P8.6: a name that is not known is ErrName where the name of an annotation must be, and nowhere else.
func TestReadNames(t *testing.T) {
	for _, s := range []string{"colour", "Doc", ".doc", "doc.doc", "docs", "do", "true", "false", "message", "", "[", "]", ",", "="} {
		expectReadError(t, []api.Token{sign("["), name(s)}, 0, 1, api.ErrName)
		expectReadError(t, []api.Token{sign("["), name(s), sign("="), num(1), sign("]")}, 0, 1, api.ErrName)
		expectReadError(t, append(tokens("[", "secret", "=", "true", ","), name(s), sign("="), num(1), sign("]")), 0, 5, api.ErrName)
		if s != "true" && s != "false" {
			expectReadError(t, append(tokens("[", "secret", "="), name(s)), 0, 3, api.ErrSyntax)
		}
		expectReadError(t, append(tokens("[", "secret"), name(s)), 0, 2, api.ErrSyntax)
		expectReadError(t, append(tokens("[", "secret", "=", "true"), name(s)), 0, 4, api.ErrSyntax)
		expectReadError(t, append(tokens("[", "min", "="), name(s)), 0, 3, api.ErrSyntax)
		expectReadError(t, append(tokens("[", "min", "=", "-"), name(s)), 0, 4, api.ErrSyntax)
	}
	for _, x := range []api.Token{text("doc"), sign("doc"), text("colour"), num(1), {}, {Text: "doc"}, {Kind: 5, Text: "doc"}, {Kind: -1, Text: "doc"}, sign("]"), sign(","), sign("["), sign("=")} {
		expectReadError(t, []api.Token{sign("["), x}, 0, 1, api.ErrSyntax)
		expectReadError(t, []api.Token{sign("["), x, sign("="), text("a"), sign("]")}, 0, 1, api.ErrSyntax)
		expectReadError(t, append(tokens("[", "min", "=", "-", 5, ","), x, sign("="), text("a"), sign("]")), 0, 6, api.ErrSyntax)
	}
	for _, k := range chapter {
		expectReadError(t, tokens("[", k.name), 0, 2, api.ErrSyntax)
	}
}

// P8.6: signs are tokens of the kind TkSign.
func TestReadSigns(t *testing.T) {
	good := tokens("[", "since", "=", 1, ",", "min", "=", "-", 5, "]")
	expectRead(t, good, 0, notes("since", u32(1), "min", i64(-5)), 10)
	for i, x := range good {
		if x.Kind != api.TkSign || i == 0 {
			continue
		}
		for _, kind := range []int{api.TkName, api.TkText, 0, 5, -4} {
			l := slices.Clone(good)
			l[i].Kind = kind
			expectReadError(t, l, 0, i, api.ErrSyntax)
		}
		for _, s := range []string{"", x.Text + x.Text, x.Text + " ", ";", "(", ")", "{", "}", "<", ">", "@", ":"} {
			l := slices.Clone(good)
			l[i].Text = s
			expectReadError(t, l, 0, i, api.ErrSyntax)
		}
	}
}

// P8.6: the lines of tokens, and what their kinds do not use, are not looked at.
func TestReadLooksAtParts(t *testing.T) {
	l := tokens("[", "since", "=", 1, ",", "doc", "=", text("a"), ",", "secret", "=", "true", "]")
	for i := range l {
		l[i].Line = 100 - 30*i
		if l[i].Kind == api.TkInt {
			l[i].Text = "12"
		} else {
			l[i].Num = 17
		}
	}
	expectRead(t, l, 0, notes("since", u32(1), "doc", str("a"), "secret", yes()), 13)
}

// P8.6: the first of several wrong tokens counts, and the end only if no token before it is wrong.
func TestReadFirst(t *testing.T) {
	bad := text("\xff")
	expectReadError(t, tokens("[", "colour", "colour", 1, "["), 0, 1, api.ErrName)
	expectReadError(t, tokens("[", "doc", "=", bad, "colour"), 0, 3, api.ErrUtf)
	expectReadError(t, tokens("[", "doc", bad, "=", bad), 0, 2, api.ErrSyntax)
	expectReadError(t, tokens("[", "since", "=", 1<<32, "colour", ","), 0, 3, api.ErrRange)
	expectReadError(t, tokens("[", "since", "=", 1, ",", "colour"), 0, 5, api.ErrName)
	expectReadError(t, tokens("[", "since", "=", 1, "]", "colour")[:4], 0, 4, api.ErrSyntax)
	expectReadError(t, tokens("[", "since", "=", 1, ",", "]"), 0, 5, api.ErrSyntax)
	expectReadError(t, tokens("[", ",", "since", "=", 1, "]"), 0, 1, api.ErrSyntax)
	expectReadError(t, tokens("[", "since", "=", 1, ",", ",", "since", "=", 1, "]"), 0, 5, api.ErrSyntax)
	expectReadError(t, tokens("[", "[", "since", "=", 1, "]", "]"), 0, 1, api.ErrSyntax)
	expectReadError(t, tokens("[", "since", "]"), 0, 2, api.ErrSyntax)
	expectReadError(t, tokens("[", "since", "=", "]"), 0, 3, api.ErrSyntax)
	expectReadError(t, tokens("[", "since", 1, "]"), 0, 2, api.ErrSyntax)
	expectReadError(t, tokens("[", "since", "=", "=", 1, "]"), 0, 3, api.ErrSyntax)
	expectReadError(t, tokens("[", "since", "=", 1, "since", "=", 1, "]"), 0, 4, api.ErrSyntax)
	expectReadError(t, tokens("["), 0, 1, api.ErrSyntax)
}

// automaton reads annotations token by token, by a table of what may follow what.
type automaton struct {
	state string
	kind  int
	name  string
	minus bool
	notes []api.Note
}

// step reads a token; done tells whether it was the last one.
func (a *automaton) step(x api.Token) (done bool, e api.Errno) {
	switch a.state + " " + class(x) {
	case "name name":
		k, ok := entryOf(x.Text)
		if !ok {
			return false, api.ErrName
		}
		a.name, a.kind, a.state = k.name, k.kind, "equals"
	case "equals =":
		a.minus, a.state = false, map[int]string{api.KBool: "bool", api.KText: "text", api.KU32: "number", api.KI64: "number"}[a.kind]
	case "bool name":
		bits, ok := map[string]uint64{"true": 1, "false": 0}[x.Text]
		if !ok {
			return false, api.ErrSyntax
		}
		a.add(api.Value{Bits: bits})
	case "text text":
		switch {
		case len(x.Text) > 4096:
			return false, api.ErrLimit
		case !utf8.ValidString(x.Text):
			return false, api.ErrUtf
		}
		a.add(api.Value{Text: x.Text})
	case "number -":
		a.minus, a.state = true, "digits"
	case "number int", "digits int":
		bits, e := integerReference(a.kind, a.minus, uint64(x.Num))
		if e != api.OK {
			return false, e
		}
		a.add(api.Value{Bits: bits})
	case "behind ,":
		a.state = "name"
	case "behind ]":
		return true, api.OK
	default:
		return false, api.ErrSyntax
	}
	return false, api.OK
}

// add adds an annotation with this value.
func (a *automaton) add(v api.Value) {
	v.Kind = a.kind
	a.notes, a.state = append(a.notes, api.Note{Name: a.name, Val: v}), "behind"
}

// class returns what the automaton sees of a token first.
func class(x api.Token) string {
	switch x.Kind {
	case api.TkName:
		return "name"
	case api.TkInt:
		return "int"
	case api.TkText:
		return "text"
	case api.TkSign:
		return x.Text
	}
	return "nothing"
}

// readReference reads annotations at an index of l by the automaton.
func readReference(l []api.Token, at int) ([]api.Note, int, api.Errno) {
	if at < 0 || at >= len(l) || l[at].Kind != api.TkSign || l[at].Text != "[" {
		return nil, at, api.OK
	}
	a := automaton{state: "name"}
	for i := at + 1; i < len(l); i++ {
		done, e := a.step(l[i])
		if e != api.OK {
			return nil, i, e
		}
		if done {
			return a.notes, i + 1, api.OK
		}
	}
	return nil, len(l), api.ErrSyntax
}

// expectReference compares Read at an index with the reference.
func expectReference(t *testing.T, l []api.Token, at int) (int, api.Errno) {
	t.Helper()
	want, end, e := readReference(l, at)
	if e == api.OK {
		expectRead(t, l, at, want, end)
	} else {
		expectReadError(t, l, at, end, e)
	}
	return end, e
}

// P8.6: each token at each place, and ends at each place: all beginnings of annotations, each with each token behind it.
func TestReadPlaces(t *testing.T) {
	pool := tokens("[", "]", ",", "=", "-", ";", "secret", "doc", "until", "max", "true", "colour", text("a"), text("\xff"), 0, 5, 1<<62, -1, api.Token{}, api.Token{Kind: 5, Text: "]"})
	beginnings := [][]api.Token{tokens("[")}
	count := 0
	for len(beginnings) > 0 {
		l := beginnings[0]
		beginnings = beginnings[1:]
		end, e := expectReference(t, l, 0)
		if end != len(l) || e != api.ErrSyntax {
			continue
		}
		for _, x := range pool {
			l := append(slices.Clone(l), x)
			count++
			// What is behind the first wrong token, or behind the last one, changes nothing.
			for _, behind := range tokens("]", "doc", 7) {
				expectReference(t, append(slices.Clone(l), behind), 0)
			}
			if end, e := expectReference(t, l, 0); len(l) < 12 && end == len(l) && e == api.ErrSyntax {
				beginnings = append(beginnings, l)
			}
		}
	}
	if count < 10000 {
		t.Errorf("only %d lists of tokens", count)
	}
}

// P8.6: lists of tokens in which one is replaced by another one, left out, or put in; and all their beginnings, from each index on.
func TestReadWrongTokens(t *testing.T) {
	pool := tokens("[", "]", ",", "=", "-", "<", "secret", "since", "alias", "false", "colour", text("b"), text("\x80"), 0, 9, -1, api.Token{}, name("["), name("]"), text("="))
	for _, src := range []string{`[secret = true]`, `[min = -5, alias = "a", since = 3, deprecated = false]`, `x [doc = "a"] = [until = 1] ;`} {
		good := scan(t, src)
		for i := range good {
			var all [][]api.Token
			for _, x := range pool {
				replaced := slices.Clone(good)
				replaced[i] = x
				all = append(all, replaced, slices.Insert(slices.Clone(good), i, x))
			}
			all = append(all, slices.Delete(slices.Clone(good), i, i+1), good[:i])
			for _, l := range all {
				for at := -1; at <= len(l)+1; at++ {
					expectReference(t, l, at)
				}
			}
		}
	}
}

// expectInverse reads the tokens of the text of l, which is not too long to be scanned.
func expectInverse(t *testing.T, l []api.Note) {
	t.Helper()
	tokens := scan(t, Text(l))
	if len(l) > 0 && len(tokens) < 5 {
		t.Errorf("the text of %s is %q", brief(l), Text(l))
	}
	expectRead(t, tokens, 0, l, len(tokens))
}

// P8.7: Read inverts Text, for all annotations with right values, in any order and number.
func TestReadInverse(t *testing.T) {
	expectInverse(t, nil)
	var pool []api.Note
	for _, k := range chapter {
		for _, v := range right(k.kind) {
			n := api.Note{Name: k.name, Val: v}
			expectInverse(t, []api.Note{n})
			if len(v.Text) < 100 {
				pool = append(pool, n)
			}
		}
	}
	for _, l := range lists(pool, 2) {
		expectInverse(t, l)
	}
	expectInverse(t, pool)
	expectInverse(t, slices.Concat(pool, pool))
	for _, n := range []int{8, 9, 100, 1000} {
		expectInverse(t, slices.Repeat(notes("until", u32(12)), n))
	}
}

// P8.7: each byte and many runes in a text.
func TestReadInverseTexts(t *testing.T) {
	for r := rune(0); r <= utf8.MaxRune; r += 1 + r/50 {
		if s := string(r); s != "\uFFFD" {
			expectInverse(t, notes("doc", str(s), "alias", str("a"+s+s+"]")))
		}
	}
	for b := range 256 {
		s := string([]byte{byte(b)})
		if !utf8.ValidString(s) {
			expectText(t, "", notes("doc", str(s)))
		}
	}
}

// P8.6, P8.7: any text against the reference, from each of its tokens on.
func FuzzNote(f *testing.F) {
	for _, src := range []string{`[alias = "id", min = -5]`, `x [secret = true] ;`, `[since = 4294967296]`, `[colour = 1]`, `[]`, `[doc = "\xff"`, `[min = -9223372036854775808, max = 18446744073709551615]`} {
		f.Add(src)
	}
	f.Fuzz(func(t *testing.T, src string) {
		l, _, _ := token.Scan(src)
		for at := range min(len(l)+1, 50) {
			expectReference(t, l, at)
			if got, _, _ := Read(l, at); len(Text(got)) <= api.MaxSource {
				expectInverse(t, got)
			}
		}
	})
}
