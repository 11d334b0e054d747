package note

import (
	"fmt"
	"math"
	"reflect"
	"slices"
	"strings"
	"testing"

	"wireschema/api"
	"wireschema/token"
)

// entry is a row of the chapter's table.
type entry struct {
	name    string
	kind    int
	targets []int
}

var everything = []int{api.ToMessage, api.ToField, api.ToEnum, api.ToItem, api.ToService, api.ToMethod}

// chapter is the chapter's table, in the order of the names.
var chapter = []entry{
	{"alias", api.KText, []int{api.ToField, api.ToItem, api.ToMethod}},
	{"deprecated", api.KBool, everything},
	{"doc", api.KText, everything},
	{"idempotent", api.KBool, []int{api.ToMethod}},
	{"length", api.KU32, []int{api.ToField}},
	{"max", api.KI64, []int{api.ToField}},
	{"min", api.KI64, []int{api.ToField}},
	{"owner", api.KText, []int{api.ToMessage, api.ToService}},
	{"route", api.KText, []int{api.ToMethod}},
	{"secret", api.KBool, []int{api.ToField}},
	{"since", api.KU32, []int{api.ToField, api.ToItem, api.ToMethod}},
	{"timeout", api.KU32, []int{api.ToMethod}},
	{"until", api.KU32, []int{api.ToField, api.ToItem, api.ToMethod}},
}

// noTargets are numbers that are no targets, some of which equal one in their last bits.
var noTargets = []int{math.MinInt, math.MinInt + 2, -64, -62, -6, -2, -1, 0, 7, 8, 9, 32, 34, 63, 64, 65, 66, 67, 70, 128, 130, 258, 1<<32 + 2, 1<<62 + 6, math.MaxInt}

// entryOf returns the row of the chapter's table with this name.
func entryOf(name string) (entry, bool) {
	i := slices.IndexFunc(chapter, func(k entry) bool { return k.name == name })
	if i < 0 {
		return entry{}, false
	}
	return chapter[i], true
}

func yes() api.Value          { return api.Value{Kind: api.KBool, Bits: 1} }
func no() api.Value           { return api.Value{Kind: api.KBool} }
func str(s string) api.Value  { return api.Value{Kind: api.KText, Text: s} }
func u32(n uint64) api.Value  { return api.Value{Kind: api.KU32, Bits: n} }
func i64(n int64) api.Value   { return api.Value{Kind: api.KI64, Bits: uint64(n)} }
func name(s string) api.Token { return api.Token{Kind: api.TkName, Text: s} }
func num(u uint64) api.Token  { return api.Token{Kind: api.TkInt, Num: int(u)} }
func text(s string) api.Token { return api.Token{Kind: api.TkText, Text: s} }
func sign(s string) api.Token { return api.Token{Kind: api.TkSign, Text: s} }

// notes returns annotations from names and values in turn.
func notes(l ...any) []api.Note {
	var list []api.Note
	for i := 0; i < len(l); i += 2 {
		list = append(list, api.Note{Name: l[i].(string), Val: l[i+1].(api.Value)})
	}
	return list
}

// tokens returns tokens from themselves, from integers, and from strings, which stand for signs or names.
func tokens(l ...any) []api.Token {
	var list []api.Token
	for _, x := range l {
		switch x := x.(type) {
		case api.Token:
			list = append(list, x)
		case int:
			list = append(list, num(uint64(x)))
		case string:
			if strings.Contains("{}[]()<>=;,@-", x) {
				list = append(list, sign(x))
			} else {
				list = append(list, name(x))
			}
		}
	}
	return list
}

// scan returns the tokens of a text, which must have no errors.
func scan(t *testing.T, src string) []api.Token {
	t.Helper()
	l, line, e := token.Scan(src)
	if e != api.OK {
		t.Fatalf("Scan(%.100q) = %d, %v", src, line, e)
	}
	return l
}

// right returns values that are right for the annotations of a kind.
func right(kind int) []api.Value {
	switch kind {
	case api.KBool:
		return []api.Value{no(), yes()}
	case api.KText:
		return []api.Value{str(""), str("id"), str("\"é\\\n\x00, ] = [\u2028"), str("-5"), str("true"), str(strings.Repeat("x", 4096)), str(strings.Repeat("é", 2048))}
	case api.KU32:
		return []api.Value{u32(0), u32(1), u32(5), u32(1 << 31), u32(1<<32 - 1)}
	}
	return []api.Value{i64(0), i64(1), i64(-1), i64(-5), i64(1 << 32), i64(-1 << 40), i64(math.MaxInt64), i64(math.MinInt64)}
}

// wrong returns values that are not right for the annotations of a kind.
func wrong(kind int) []api.Value {
	var l []api.Value
	for k := -1; k <= 13; k++ {
		if k != kind {
			l = append(l, api.Value{Kind: k}, api.Value{Kind: k, Bits: 1}, api.Value{Kind: k, Text: "a"})
		}
	}
	for _, v := range right(kind) {
		for _, w := range []api.Value{{List: []api.Value{v}}, {Pairs: make([]api.Pair, 1)}, {Slots: make([]api.Slot, 1)}, {Raws: make([]api.Raw, 1)}} {
			w.Kind, w.Bits, w.Text = v.Kind, v.Bits, v.Text
			l = append(l, w)
		}
	}
	switch kind {
	case api.KBool:
		l = append(l, api.Value{Kind: kind, Bits: 2}, api.Value{Kind: kind, Bits: 1<<64 - 1}, api.Value{Kind: kind, Text: "true"})
	case api.KText:
		l = append(l, api.Value{Kind: kind, Bits: 1, Text: "a"}, str("\xff"), str("a\xc3"), str("\xed\xa0\x80"), str(strings.Repeat("x", 4097)), str("x"+strings.Repeat("é", 2048)))
	case api.KU32:
		l = append(l, u32(1<<32), u32(1<<63), u32(1<<64-1), api.Value{Kind: kind, Text: "1"})
	default:
		l = append(l, api.Value{Kind: kind, Text: "1"}, api.Value{Kind: kind, Bits: 1, Text: "\x00"})
	}
	return l
}

// brief returns the beginning of what is printed of x.
func brief(x any) string {
	s := fmt.Sprintf("%+v", x)
	return s[:min(len(s), 600)]
}

// equal reports whether two lists of annotations are equal in all their parts.
func equal(a, b []api.Note) bool {
	return len(a) == 0 && len(b) == 0 || reflect.DeepEqual(a, b)
}

// P8.1: the kinds of all known annotations.
func TestKind(t *testing.T) {
	if len(chapter) != 13 {
		t.Errorf("the table has %d annotations", len(chapter))
	}
	for _, k := range chapter {
		if got := Kind(k.name); got != k.kind {
			t.Errorf("Kind(%q) = %d, expected %d", k.name, got, k.kind)
		}
	}
}

// P8.1: other names, among them all that differ from a known one in one byte.
func TestKindUnknown(t *testing.T) {
	names := []string{"", " ", "a", "colour", "true", "false", "message", "default", "optional", "note", "notes", "Kind", "[", "=", "\"doc\"", "doc = ", "doc,alias", "docalias", "minmax", "mi", "ma", "timeouts", "hidden", "deprecate", "doc\x00", "\x00", "\xff", "dóc", "ｄoc", "KText", "since.until", strings.Repeat("doc", 10000)}
	for _, k := range chapter {
		names = append(names, strings.ToUpper(k.name), strings.ToUpper(k.name[:1])+k.name[1:], "."+k.name, k.name+".", k.name+"."+k.name, k.name+" ", " "+k.name, k.name+k.name)
		for i := range k.name {
			before, after := k.name[:i], k.name[i+1:]
			names = append(names, before+after, before)
			for b := range 256 {
				c := string([]byte{byte(b)})
				names = append(names, before+c+after, before+c+k.name[i:], k.name+c)
			}
		}
	}
	for _, s := range names {
		if _, ok := entryOf(s); ok {
			continue
		}
		if got := Kind(s); got != 0 {
			t.Errorf("Kind(%q) = %d, expected 0", s, got)
		}
	}
}

func expectCheck(t *testing.T, want api.Errno, target int, l []api.Note) {
	t.Helper()
	if got := Check(l, target); got != want {
		t.Errorf("Check(%s, %d) = %v, expected %v", brief(l), target, got, want)
	}
}

// P8.2: the examples of the chapter.
func TestCheckExamples(t *testing.T) {
	expectCheck(t, api.ErrOrder, api.ToField, notes("doc", str("a"), "alias", str("b")))
	expectCheck(t, api.ErrTwice, api.ToField, notes("alias", str("a"), "alias", str("b")))
	expectCheck(t, api.ErrArg, api.ToMessage, notes("alias", str("a")))
	expectCheck(t, api.OK, api.ToField, notes("alias", str("a"), "doc", str("b")))
}

// P8.2: every known annotation with every target, and with numbers that are no targets.
func TestCheckTargets(t *testing.T) {
	for _, k := range chapter {
		for _, v := range right(k.kind) {
			for _, target := range everything {
				want := api.ErrArg
				if slices.Contains(k.targets, target) {
					want = api.OK
				}
				expectCheck(t, want, target, notes(k.name, v))
			}
			for _, target := range noTargets {
				expectCheck(t, api.ErrArg, target, notes(k.name, v))
			}
		}
	}
}

// P8.2: values of other kinds, and values that do not fit.
func TestCheckValues(t *testing.T) {
	for _, k := range chapter {
		for _, v := range wrong(k.kind) {
			for _, target := range k.targets {
				expectCheck(t, api.ErrType, target, notes(k.name, v))
			}
		}
	}
}

// P8.2: names that are not known.
func TestCheckNames(t *testing.T) {
	for _, s := range []string{"", "colour", "Doc", "doc ", ".doc", "docs", "do", "true", "\xff"} {
		for _, target := range append(slices.Clone(noTargets), everything...) {
			for _, v := range []api.Value{yes(), str("a"), u32(1), i64(1), {}, {Kind: 99}} {
				expectCheck(t, api.ErrName, target, notes(s, v))
			}
		}
	}
}

// P8.2: no annotations are right for any target, even one that does not exist.
func TestCheckNothing(t *testing.T) {
	for _, target := range append(slices.Clone(noTargets), everything...) {
		expectCheck(t, api.OK, target, nil)
		expectCheck(t, api.OK, target, []api.Note{})
	}
}

// permitted returns all annotations for a target, in order, with right values.
func permitted(target int) []api.Note {
	var l []api.Note
	for _, k := range chapter {
		if slices.Contains(k.targets, target) {
			l = append(l, api.Note{Name: k.name, Val: right(k.kind)[1]})
		}
	}
	return l
}

// P8.2: MaxNotes annotations are permitted, and no more, whatever they are.
func TestCheckLimit(t *testing.T) {
	fields, methods := permitted(api.ToField), permitted(api.ToMethod)
	if len(fields) != 9 || len(methods) != 8 {
		t.Fatalf("%d annotations for fields, %d for methods", len(fields), len(methods))
	}
	expectCheck(t, api.ErrLimit, api.ToField, fields)
	for i := range fields {
		expectCheck(t, api.OK, api.ToField, slices.Delete(slices.Clone(fields), i, i+1))
	}
	expectCheck(t, api.OK, api.ToMethod, methods)
	for _, n := range []api.Note{{}, {Name: "colour", Val: yes()}, {Name: "doc", Val: yes()}, {Name: "doc", Val: str("a")}, {Name: "until", Val: u32(1)}} {
		for _, target := range []int{api.ToMethod, api.ToField, 0, -1} {
			expectCheck(t, api.ErrLimit, target, append(slices.Clone(methods), n))
			expectCheck(t, api.ErrLimit, target, append([]api.Note{n}, methods...))
			expectCheck(t, api.ErrLimit, target, slices.Repeat([]api.Note{n}, 9))
			expectCheck(t, api.ErrLimit, target, slices.Repeat([]api.Note{n}, 10))
			expectCheck(t, api.ErrLimit, target, slices.Repeat([]api.Note{n}, 100000))
		}
	}
	expectCheck(t, api.ErrName, api.ToField, make([]api.Note, 8))
	expectCheck(t, api.ErrTwice, api.ToField, slices.Repeat(notes("doc", str("a")), 8))
	last := slices.Clone(methods)
	last[7].Val = yes()
	expectCheck(t, api.ErrType, api.ToMethod, last)
	last[7] = api.Note{Name: "zzz", Val: yes()}
	expectCheck(t, api.ErrName, api.ToMethod, last)
	last[7] = methods[6]
	expectCheck(t, api.ErrTwice, api.ToMethod, last)
	last[7] = methods[5]
	expectCheck(t, api.ErrOrder, api.ToMethod, last)
}

// P8.2: each two annotations of each target, in both orders and twice.
func TestCheckOrder(t *testing.T) {
	for _, target := range everything {
		l := permitted(target)
		for i, a := range l {
			for j, b := range l {
				want := api.OK
				switch {
				case i > j:
					want = api.ErrOrder
				case i == j:
					want = api.ErrTwice
				}
				expectCheck(t, want, target, []api.Note{a, b})
			}
			expectCheck(t, api.OK, target, l[:min(i, 8)])
		}
	}
	// The name is compared with the one directly before it, so that the third one is in the wrong order and not there twice.
	expectCheck(t, api.ErrOrder, api.ToField, notes("alias", str("a"), "doc", str("b"), "alias", str("c")))
	expectCheck(t, api.ErrTwice, api.ToField, notes("alias", str("a"), "doc", str("b"), "doc", str("b")))
	// Values play no part in the order.
	expectCheck(t, api.OK, api.ToField, notes("max", i64(5), "min", i64(-5), "since", u32(9), "until", u32(1)))
}

// P8.2: several errors of one annotation are examined in the order in which they are named, those of an earlier one first.
func TestCheckFirst(t *testing.T) {
	doc := notes("doc", str("a"))[0]
	then := func(l ...any) []api.Note { return append([]api.Note{doc}, notes(l...)...) }
	expectCheck(t, api.ErrName, 0, then("colour", api.Value{})[1:])
	expectCheck(t, api.ErrName, api.ToField, then("colour", api.Value{}))
	expectCheck(t, api.ErrName, api.ToField, then("Doc", api.Value{}))
	expectCheck(t, api.ErrArg, api.ToMessage, then("alias", yes()))
	expectCheck(t, api.ErrArg, api.ToMessage, then("alias", str("a")))
	expectCheck(t, api.ErrType, api.ToField, then("alias", yes()))
	expectCheck(t, api.ErrType, api.ToField, then("doc", yes()))
	expectCheck(t, api.ErrOrder, api.ToField, then("alias", str("a")))
	expectCheck(t, api.ErrTwice, api.ToField, then("doc", str("a")))
	expectCheck(t, api.ErrTwice, api.ToField, then("doc", str("b"), "colour", yes()))
	expectCheck(t, api.ErrOrder, api.ToField, then("alias", str("b"), "colour", yes()))
	expectCheck(t, api.ErrType, api.ToField, notes("doc", yes(), "colour", yes()))
	expectCheck(t, api.ErrArg, api.ToMessage, notes("alias", yes(), "colour", yes()))
	expectCheck(t, api.ErrName, api.ToMessage, notes("colour", yes(), "alias", str("a")))
	expectCheck(t, api.ErrType, api.ToMessage, notes("doc", yes(), "alias", str("a")))
}

// checkReference repeats the promise.
func checkReference(l []api.Note, target int) api.Errno {
	for i, n := range l {
		k, ok := entryOf(n.Name)
		if !ok {
			return api.ErrName
		}
		if !slices.Contains(k.targets, target) {
			return api.ErrArg
		}
		if !slices.ContainsFunc(right(k.kind), func(v api.Value) bool { return reflect.DeepEqual(v, n.Val) }) {
			return api.ErrType
		}
		if i > 0 && strings.Compare(n.Name, l[i-1].Name) < 0 {
			return api.ErrOrder
		}
		if i > 0 && strings.Compare(n.Name, l[i-1].Name) == 0 {
			return api.ErrTwice
		}
	}
	return api.OK
}

// lists returns all lists of up to n annotations of a pool.
func lists(pool []api.Note, n int) [][]api.Note {
	all := [][]api.Note{nil}
	for from := 0; n > 0; n-- {
		to := len(all)
		for _, l := range all[from:to] {
			for _, x := range pool {
				all = append(all, append(slices.Clone(l), x))
			}
		}
		from = to
	}
	return all
}

// P8.2: all lists of up to three right and wrong annotations with all targets.
func TestCheckLists(t *testing.T) {
	pool := notes("", yes(), "alias", str("id"), "alias", yes(), "colour", str("id"), "deprecated", yes(), "doc", str(""), "doc", u32(1), "min", i64(-1), "min", u32(1), "owner", str("id"), "since", u32(1), "since", u32(1<<32), "timeout", u32(5), "until", str("id"), "until", u32(0))
	for _, l := range lists(pool, 3) {
		for target := range 8 {
			expectCheck(t, checkReference(l, target), target, l)
		}
	}
}

func expectFind(t *testing.T, l []api.Note, name string, want api.Value, found bool) {
	t.Helper()
	if got, ok := Find(l, name); ok != found || !reflect.DeepEqual(got, want) {
		t.Errorf("Find(%s, %q) = %s, %v; expected %s, %v", brief(l), name, brief(got), ok, brief(want), found)
	}
}

// P8.3: Find returns the first of several annotations with a name, known or not, right or not.
func TestFind(t *testing.T) {
	l := notes("doc", str("a"), "alias", str("b"), "doc", str("c"), "", u32(7), "colour", yes(), "min", i64(-5), "secret", no(), "min", i64(6))
	expectFind(t, l, "doc", str("a"), true)
	expectFind(t, l[1:], "doc", str("c"), true)
	expectFind(t, l, "alias", str("b"), true)
	expectFind(t, l, "", u32(7), true)
	expectFind(t, l, "colour", yes(), true)
	expectFind(t, l, "min", i64(-5), true)
	expectFind(t, l[6:], "min", i64(6), true)
	expectFind(t, l, "secret", no(), true)
	for _, s := range []string{"max", "Doc", "do", "docs", "doc ", ".doc", "zzz", "\x00"} {
		expectFind(t, l, s, api.Value{}, false)
	}
	for _, s := range []string{"", "doc", "alias"} {
		expectFind(t, nil, s, api.Value{}, false)
		expectFind(t, []api.Note{}, s, api.Value{}, false)
		expectFind(t, l[3:3], s, api.Value{}, false)
	}
	for i := range chapter {
		l := notes(chapter[i].name, api.Value{Kind: i})
		expectFind(t, l, chapter[i].name, api.Value{Kind: i}, true)
		expectFind(t, l, chapter[(i+1)%13].name, api.Value{}, false)
	}
}

// P8.3: Find returns values of any kind as they are, also a zero value, one that is not in normal form, and one that is no scalar.
func TestFindValues(t *testing.T) {
	for _, v := range oddValues() {
		expectFind(t, notes("a", yes(), "x", v), "x", v, true)
		expectFind(t, notes("a", yes(), "x", v), "y", api.Value{}, false)
	}
}

// oddValues returns values that no known annotation has.
func oddValues() []api.Value {
	nan := api.Value{Kind: api.KDouble, Bits: 0xfff0000000000001}
	list := []api.Value{nan, str("\xff"), {Kind: api.KList, List: []api.Value{nan, u32(1 << 40)}}}
	return []api.Value{
		{}, nan, {Kind: -5}, {Bits: 9}, {Text: "a"},
		{Kind: api.KDouble, Bits: 1 << 63},
		{Kind: api.KBool, Bits: 77, Text: "x"},
		str("\xff"), str(strings.Repeat("x", 5000)),
		{Kind: api.KList, List: list},
		{Kind: api.KMap, Pairs: []api.Pair{{Key: nan, Val: list[2]}}},
		{Kind: api.KMessage, Slots: []api.Slot{{Num: 3, Val: list[2]}}, Raws: []api.Raw{{Num: 1, Wire: api.WiLen, Data: "a"}}},
		{Kind: api.KDouble, Bits: 0x7ff0000000000001, Text: "x", List: list, Pairs: []api.Pair{{Key: nan, Val: nan}}, Slots: []api.Slot{{Num: 1, Val: nan}}, Raws: []api.Raw{{Bits: 5}}},
	}
}

// P8.3: Flag is true for the bool 1 of the first annotation with the name only.
func TestFlag(t *testing.T) {
	for _, c := range []struct {
		l    []api.Note
		name string
		want bool
	}{
		{nil, "secret", false},
		{notes("secret", yes()), "secret", true},
		{notes("secret", no()), "secret", false},
		{notes("secret", yes()), "deprecated", false},
		{notes("secret", yes()), "", false},
		{notes("", yes()), "", true},
		{notes("colour", yes()), "colour", true},
		{notes("doc", yes()), "doc", true},
		{notes("a", no(), "b", yes(), "c", no()), "b", true},
		{notes("a", yes(), "b", no(), "c", yes()), "b", false},
		{notes("a", no(), "a", yes()), "a", false},
		{notes("a", yes(), "a", no()), "a", true},
		{notes("a", api.Value{}, "a", yes()), "a", false},
		{notes("b", yes(), "a", yes()), "a", true},
		{notes("secret", str("true")), "secret", false},
	} {
		if got := Flag(c.l, c.name); got != c.want {
			t.Errorf("Flag(%s, %q) = %v", brief(c.l), c.name, got)
		}
	}
	for kind := -1; kind <= 13; kind++ {
		for _, bits := range []uint64{0, 1, 2, 3, 1 << 32, 1<<32 + 1, 1<<63 + 1, 1<<64 - 1} {
			// Only the kind and the bits are looked at.
			for _, v := range []api.Value{{}, {Text: "true"}, {List: make([]api.Value, 1)}, {Slots: make([]api.Slot, 1)}} {
				v.Kind, v.Bits = kind, bits
				if got, want := Flag(notes("a", v), "a"), kind == api.KBool && bits == 1; got != want {
					t.Errorf("Flag of %s = %v", brief(v), got)
				}
			}
		}
	}
}

// P8.3: Same compares lengths, names, kinds, bits and texts, and nothing else.
func TestSame(t *testing.T) {
	a := api.Note{Name: "a", Val: api.Value{Kind: 1, Bits: 2, Text: "t"}}
	for _, b := range []api.Note{
		{Name: "b", Val: a.Val},
		{Name: "A", Val: a.Val},
		{Name: "", Val: a.Val},
		{Name: "a", Val: api.Value{Kind: 2, Bits: 2, Text: "t"}},
		{Name: "a", Val: api.Value{Kind: 1, Bits: 3, Text: "t"}},
		{Name: "a", Val: api.Value{Kind: 1, Bits: 2 + 1<<32, Text: "t"}},
		{Name: "a", Val: api.Value{Kind: 1, Bits: 2, Text: "T"}},
		{Name: "a", Val: api.Value{Kind: 1, Bits: 2, Text: ""}},
		{Name: "a", Val: api.Value{Kind: 1, Bits: 2, Text: "tt"}},
		{Name: "a"},
		{},
	} {
		for _, l := range [][2][]api.Note{{{a}, {b}}, {{a, a}, {a, b}}, {{a, a}, {b, a}}, {{a, b}, {b, a}}, {{a, a, a}, {a, b, a}}} {
			if Same(l[0], l[1]) || Same(l[1], l[0]) {
				t.Errorf("%s and %s are the same", brief(l[0]), brief(l[1]))
			}
			if !Same(l[0], l[0]) || !Same(l[1], slices.Clone(l[1])) {
				t.Errorf("%s and %s are not the same as themselves", brief(l[0]), brief(l[1]))
			}
		}
	}
	for _, v := range oddValues() {
		w := api.Value{Kind: v.Kind, Bits: v.Bits, Text: v.Text}
		if !Same(notes("a", v), notes("a", w)) || !Same(notes("b", w, "a", w), notes("b", v, "a", w)) {
			t.Errorf("other parts of %s are compared", brief(v))
		}
	}
}

// P8.3: lists of different lengths are not the same, also if one begins with the other.
func TestSameLengths(t *testing.T) {
	l := slices.Repeat(notes("a", yes()), 4)
	zeros := make([]api.Note, 4)
	for i := range 5 {
		for j := range 5 {
			for _, l := range [][]api.Note{l, zeros} {
				if got := Same(l[:i], l[:j]); got != (i == j) {
					t.Errorf("Same of %d and %d equal annotations = %v", i, j, got)
				}
			}
		}
	}
	if !Same(nil, []api.Note{}) || !Same([]api.Note{}, nil) || !Same(nil, nil) || Same(nil, zeros[:1]) || Same(zeros[:1], nil) {
		t.Error("Same of no annotations")
	}
}

func expectSet(t *testing.T, l []api.Note, n api.Note, want []api.Note) {
	t.Helper()
	if got := Set(l, n); !equal(got, want) {
		t.Errorf("Set(%s, %s) = %s, expected %s", brief(l), brief(n), brief(got), brief(want))
	}
}

// setReference repeats the promise.
func setReference(l []api.Note, n api.Note) []api.Note {
	for i := range l {
		if l[i].Name == n.Name {
			return slices.Concat(l[:i], []api.Note{n}, l[i+1:])
		}
	}
	for i := range l {
		if strings.Compare(l[i].Name, n.Name) > 0 {
			return slices.Concat(l[:i], []api.Note{n}, l[i:])
		}
	}
	return slices.Concat(l, []api.Note{n})
}

// P8.4: an annotation takes the place of the first one with its name.
func TestSetReplaces(t *testing.T) {
	a, b, c := notes("a", u32(1))[0], notes("b", u32(2))[0], notes("c", u32(3))[0]
	for _, n := range notes("a", str("new"), "b", api.Value{}, "c", yes(), "a", u32(1)) {
		for _, l := range lists([]api.Note{a, b, c}, 4) {
			expectSet(t, l, n, setReference(l, n))
		}
	}
	n := notes("b", str("new"))[0]
	expectSet(t, []api.Note{b}, n, []api.Note{n})
	expectSet(t, []api.Note{a, b, c}, n, []api.Note{a, n, c})
	expectSet(t, []api.Note{c, b, a}, n, []api.Note{c, n, a})
	expectSet(t, []api.Note{b, b, b}, n, []api.Note{n, b, b})
	expectSet(t, []api.Note{c, a, b, c, b}, n, []api.Note{c, a, n, c, b})
}

// P8.4: an annotation with another name is inserted before the first one with a greater name, or at the end.
func TestSetInserts(t *testing.T) {
	pool := notes("a", yes(), "b", u32(2), "d", str("x"), "ba", i64(-1), "B", no(), "", no())
	for _, n := range notes("c", yes(), "", str(""), "A", u32(9), "a", no(), "b\x00", yes(), "bb", yes(), "z", i64(5), "é", yes(), "\xff", api.Value{}) {
		for _, l := range lists(pool, 3) {
			expectSet(t, l, n, setReference(l, n))
		}
	}
	a, b, d, c := pool[0], pool[1], pool[2], notes("c", str("new"))[0]
	expectSet(t, nil, c, []api.Note{c})
	expectSet(t, []api.Note{}, c, []api.Note{c})
	expectSet(t, []api.Note{a, b}, c, []api.Note{a, b, c})
	expectSet(t, []api.Note{d}, c, []api.Note{c, d})
	expectSet(t, []api.Note{a, b, d}, c, []api.Note{a, b, c, d})
	expectSet(t, []api.Note{d, a, d, b}, c, []api.Note{c, d, a, d, b})
	expectSet(t, []api.Note{b, a, d, d}, c, []api.Note{b, a, c, d, d})
	full := slices.Repeat([]api.Note{a}, 100)
	expectSet(t, full, c, append(slices.Clone(full), c))
}

// P8.4: names are neither looked up nor are values examined: they are taken as they are.
func TestSetTakesAnything(t *testing.T) {
	for _, v := range oddValues() {
		expectSet(t, notes("b", v), notes("a", v)[0], notes("a", v, "b", v))
		expectSet(t, notes("a", v, "b", yes()), notes("a", yes())[0], notes("a", yes(), "b", yes()))
		expectSet(t, notes("a", yes(), "b", v), notes("a", v)[0], notes("a", v, "b", v))
	}
}

func expectText(t *testing.T, want string, l []api.Note) {
	t.Helper()
	if got := Text(l); got != want {
		t.Errorf("Text(%s) = %.300q, expected %.300q", brief(l), got, want)
	}
}

// P8.5: annotations of all kinds, in any order, any number of them, twice or not.
func TestText(t *testing.T) {
	expectText(t, `[alias = "id", min = -5]`, notes("alias", str("id"), "min", i64(-5)))
	expectText(t, `[min = -5, alias = "id"]`, notes("min", i64(-5), "alias", str("id")))
	expectText(t, ``, nil)
	expectText(t, ``, []api.Note{})
	expectText(t, `[doc = ""]`, notes("doc", str("")))
	expectText(t, `[doc = "a\"b\\\n\x00é"]`, notes("doc", str("a\"b\\\n\x00é")))
	expectText(t, "[doc = \"\uFFFD\"]", notes("doc", str("\uFFFD")))
	expectText(t, `[secret = true]`, notes("secret", yes()))
	expectText(t, `[secret = false]`, notes("secret", no()))
	expectText(t, `[since = 4294967295, until = 0]`, notes("since", u32(1<<32-1), "until", u32(0)))
	expectText(t, `[max = 9223372036854775807, min = -9223372036854775808]`, notes("max", i64(math.MaxInt64), "min", i64(math.MinInt64)))
	expectText(t, `[doc = "a", doc = "a", alias = "b"]`, notes("doc", str("a"), "doc", str("a"), "alias", str("b")))
	expectText(t, "["+strings.Repeat("length = 1, ", 99)+"length = 1]", slices.Repeat(notes("length", u32(1)), 100))
	expectText(t, `[doc = "`+strings.Repeat("x", 4096)+`"]`, notes("doc", str(strings.Repeat("x", 4096))))
	expectText(t, `[doc = "`+strings.Repeat(`\x00`, 4096)+`", secret = true]`, notes("doc", str(strings.Repeat("\x00", 4096)), "secret", yes()))
	var all []api.Note
	var texts []string
	for _, k := range chapter {
		all = append(all, api.Note{Name: k.name, Val: right(k.kind)[1]})
		value := map[int]string{api.KBool: `true`, api.KText: `"id"`, api.KU32: `1`, api.KI64: `1`}[k.kind]
		texts = append(texts, k.name+" = "+value)
		expectText(t, "["+k.name+" = "+value+"]", all[len(all)-1:])
	}
	expectText(t, "["+strings.Join(texts, ", ")+"]", all)
}

// P8.5: there is no text if a name is not known or a value is not right, at any place.
func TestTextWrong(t *testing.T) {
	good := notes("doc", str("a"), "since", u32(1), "min", i64(2), "secret", yes())
	var bad []api.Note
	for _, s := range []string{"", "colour", "Doc", "doc ", ".doc", "do", "docs", "a = 1, b"} {
		bad = append(bad, notes(s, str("a"), s, yes(), s, u32(1))...)
	}
	for _, k := range chapter {
		for _, v := range wrong(k.kind) {
			bad = append(bad, api.Note{Name: k.name, Val: v})
		}
	}
	for _, n := range bad {
		expectText(t, "", []api.Note{n})
		for i := range len(good) + 1 {
			expectText(t, "", slices.Insert(slices.Clone(good), i, n))
		}
	}
}

// P8.8: what Set makes of annotations that Check accepts is accepted, if there is room.
func TestSetIsAccepted(t *testing.T) {
	for _, target := range everything {
		all := permitted(target)
		for chosen := range 1 << len(all) {
			var l []api.Note
			for i, n := range all {
				if chosen>>i&1 == 1 {
					l = append(l, n)
				}
			}
			if len(l) >= api.MaxNotes {
				continue
			}
			expectCheck(t, api.OK, target, l)
			for _, n := range all {
				for _, v := range right(Kind(n.Name)) {
					expectCheck(t, api.OK, target, Set(l, api.Note{Name: n.Name, Val: v}))
				}
			}
		}
	}
}

// P8.8: with MaxNotes annotations there is room for none with another name; targets and values that do not fit are not accepted.
func TestSetIsNotAccepted(t *testing.T) {
	all := permitted(api.ToField)
	for i, n := range all {
		full := slices.Delete(slices.Clone(all), i, i+1)
		expectCheck(t, api.ErrLimit, api.ToField, Set(full, n))
		for _, other := range full {
			expectCheck(t, api.OK, api.ToField, Set(full, other))
		}
		expectCheck(t, api.ErrType, api.ToField, Set(nil, api.Note{Name: n.Name}))
	}
	expectCheck(t, api.ErrArg, api.ToMessage, Set(notes("doc", str("a")), notes("alias", str("b"))[0]))
	expectCheck(t, api.ErrName, api.ToMessage, Set(notes("doc", str("a")), notes("colour", str("b"))[0]))
}

// spoil changes all that can be changed in a value, at all levels.
func spoil(v api.Value) {
	for i := range v.List {
		spoil(v.List[i])
		v.List[i] = str("spoiled")
	}
	for i := range v.Pairs {
		spoil(v.Pairs[i].Key)
		spoil(v.Pairs[i].Val)
		v.Pairs[i] = api.Pair{}
	}
	for i := range v.Slots {
		spoil(v.Slots[i].Val)
		v.Slots[i] = api.Slot{Num: -1}
	}
	for i := range v.Raws {
		v.Raws[i] = api.Raw{Num: -1}
	}
}

// nested returns annotations whose values have parts, always the same ones.
func nested() []api.Note {
	var l []api.Note
	for i, v := range oddValues() {
		l = append(l, api.Note{Name: string(rune('b' + 2*i)), Val: v})
	}
	return l
}

// Rule 0.4: values that are returned are new memory.
func TestResultsAreNew(t *testing.T) {
	l := nested()
	for i := range l {
		v, _ := Find(l, l[i].Name)
		spoil(v)
		if !equal(l, nested()) {
			t.Fatalf("the value that Find returns of %q is that of its argument", l[i].Name)
		}
	}
	for _, s := range []string{"a", "b", "c", "d", "z", "zz"} {
		n := api.Note{Name: s, Val: oddValues()[12]}
		got := Set(l, n)
		for i := range got {
			spoil(got[i].Val)
			got[i] = api.Note{}
		}
		if !equal(l, nested()) || !reflect.DeepEqual(n.Val, oddValues()[12]) {
			t.Fatalf("the annotations that Set returns for %q are those of its arguments", s)
		}
	}
	// The same value twice in the arguments is two values in the result.
	v := oddValues()[12]
	got := Set(notes("a", v, "b", v), notes("c", v)[0])
	for i := range got {
		if !reflect.DeepEqual(got[i].Val, oddValues()[12]) {
			t.Fatalf("the annotations that Set returns share memory")
		}
		spoil(got[i].Val)
	}
}

// Rule 0.4: arguments are not changed, not even behind their ends.
func TestArgumentsRemain(t *testing.T) {
	room := append(nested(), notes("y", yes(), "z", no())...)
	want := append(nested(), notes("y", yes(), "z", no())...)
	for n := range len(room) + 1 {
		l := room[:n]
		for _, s := range []string{"", "a", "b", "c", "m", "y", "zz"} {
			Set(l, api.Note{Name: s, Val: yes()})
			Find(l, s)
			Flag(l, s)
		}
		Text(l)
		Same(l, l)
		Check(l, api.ToField)
		if !equal(room, want) {
			t.Fatalf("the annotations were changed: %s", brief(room))
		}
	}
	for _, src := range []string{`[doc = "a", min = -5] x`, `[doc = 1`} {
		l := scan(t, src)
		Read(l, 0)
		if !slices.Equal(l, scan(t, src)) {
			t.Errorf("the tokens of %q were changed", src)
		}
	}
	first, _, _ := Read(scan(t, `[doc = "a"]`), 0)
	Read(scan(t, `[min = -5]`), 0)
	if !equal(first, notes("doc", str("a"))) {
		t.Error("annotations were changed by a later call")
	}
}
