package ident

import (
	"slices"
	"strings"
	"testing"

	"wireschema/api"
)

const (
	smalls   = "abcdefghijklmnopqrstuvwxyz"
	capitals = "ABCDEFGHIJKLMNOPQRSTUVWXYZ"
	digits   = "0123456789"
)

// keywords are those of the chapter, in its order.
func keywords() []string {
	return strings.Fields("message enum service union map list required optional plain default reserved import space rpc stream returns open true false nan inf")
}

// over returns all strings of up to n bytes over the letters.
func over(letters string, n int) []string {
	all := []string{""}
	for from := 0; n > 0; n-- {
		to := len(all)
		for _, s := range all[from:to] {
			for _, c := range letters {
				all = append(all, s+string(c))
			}
		}
		from = to
	}
	return all
}

// fullOf returns a full name of n bytes, with parts of at most MaxName bytes.
func fullOf(n int) string {
	b := []byte(strings.Repeat("a", n))
	for i := api.MaxName - 1; i < n-1; i += api.MaxName {
		b[i] = '.'
	}
	return string(b)
}

// partByBytes reports by the definition whether s is a part.
func partByBytes(s string) bool {
	if len(s) < 1 || len(s) > 40 || !strings.Contains(smalls+capitals, s[:1]) {
		return false
	}
	for i := range len(s) {
		if strings.IndexByte(smalls+capitals+digits+"_", s[i]) < 0 {
			return false
		}
	}
	return true
}

// upByDots returns the strings in front of the dots of full, from the last one on.
func upByDots(full string) []string {
	list := []string{full}
	for i := len(full) - 1; i >= 0; i-- {
		if full[i] == '.' {
			list = append(list, full[:i])
		}
	}
	if list[len(list)-1] != "" {
		list = append(list, "")
	}
	return list
}

// resolveInOrder resolves a name by trying the scopes one after the other.
func resolveInOrder(scope, name string, known []string) (string, bool) {
	if name != "" && name[0] == '.' {
		if slices.Contains(known, name[1:]) {
			return name[1:], true
		}
		return "", false
	}
	for _, s := range upByDots(scope) {
		full := name
		if s != "" {
			full = s + "." + name
		}
		if slices.Contains(known, full) {
			return full, true
		}
	}
	return "", false
}

func expectBool(t *testing.T, what string, f func(string) bool, s string, want bool) {
	t.Helper()
	if got := f(s); got != want {
		t.Errorf("%s(%q) = %v, expected %v", what, s, got, want)
	}
}

func expectString(t *testing.T, what string, f func(string) string, s, want string) {
	t.Helper()
	if got := f(s); got != want {
		t.Errorf("%s(%q) = %q, expected %q", what, s, got, want)
	}
}

func expectSplit(t *testing.T, full, scope, name string) {
	t.Helper()
	if gotScope, gotName := Split(full); gotScope != scope || gotName != name {
		t.Errorf("Split(%q) = %q, %q; expected %q, %q", full, gotScope, gotName, scope, name)
	}
}

func expectUp(t *testing.T, full string, want ...string) {
	t.Helper()
	if got := Up(full); !slices.Equal(got, want) {
		t.Errorf("Up(%q) = %q, expected %q", full, got, want)
	}
}

func expectResolve(t *testing.T, scope, name string, known []string, full string, ok bool) {
	t.Helper()
	if got, gotOk := Resolve(scope, name, known); got != full || gotOk != ok {
		t.Errorf("Resolve(%q, %q, %q) = %q, %v; expected %q, %v", scope, name, known, got, gotOk, full, ok)
	}
}

// P6.1: which strings are parts.
func TestIsPart(t *testing.T) {
	for _, s := range []string{"a", "z", "A", "Z", "a_1", "a1", "a_", "a__", "A_b9Z_", "x0", "message", "True", "e10", strings.Repeat("a", 40), strings.Repeat("Z", 39) + "_", "a" + strings.Repeat("9", 39)} {
		expectBool(t, "IsPart", IsPart, s, true)
	}
	for _, s := range []string{"", "1", "1a", "_", "_a", ".", ".a", "a.", "a.b", "a b", " a", "a ", "a\n", "a-b", "a\x00", "\x00", "é", "aé", "a\xc3", "\xff", "К", "ａ", "aª", "a٣", "a\u0301", "$", "a$", "@", "`a", "[a", "{", "a/", "a:", "a^", strings.Repeat("a", 41), strings.Repeat("a", 400), strings.Repeat("a", 39) + "."} {
		expectBool(t, "IsPart", IsPart, s, false)
	}
}

// P6.1: each byte at the first place, at a later one, and at the last one of a part.
func TestIsPartBytes(t *testing.T) {
	for b := range 256 {
		c := string([]byte{byte(b)})
		letter := strings.Contains(smalls+capitals, c)
		later := letter || strings.Contains(digits+"_", c)
		expectBool(t, "IsPart", IsPart, c, letter)
		expectBool(t, "IsPart", IsPart, c+"a", letter)
		expectBool(t, "IsPart", IsPart, "a"+c, later)
		expectBool(t, "IsPart", IsPart, "a"+c+"b", later)
		expectBool(t, "IsPart", IsPart, strings.Repeat("a", 39)+c, later)
		expectBool(t, "IsPart", IsPart, strings.Repeat("a", 40)+c, false)
		expectBool(t, "IsFull", IsFull, "a."+c, letter)
		expectBool(t, "IsFull", IsFull, "b.a"+c+"b.c", later || c == "." && IsPart("b"))
	}
}

// P6.1: which strings are full names.
func TestIsFull(t *testing.T) {
	for _, s := range []string{"a", "a.B2", "a.b.c", "A.b_.C__1", "message.enum", "a.b.c.d.e.f.g.h", strings.Repeat("a", 40), strings.Repeat("a", 40) + ".b", "b." + strings.Repeat("a", 40), strings.Repeat("a.", 59) + "bc", fullOf(120), fullOf(119), strings.Repeat("a", 40) + "." + strings.Repeat("b", 40) + "." + strings.Repeat("c", 38)} {
		expectBool(t, "IsFull", IsFull, s, true)
	}
	for _, s := range []string{"", ".", "..", ".a", "a.", "a..b", "a...b", ".a.b", "a.b.", "..a", "a..", "a.1", "1.a", "a._b", "_a.b", "a. b", "a .b", "a.b-c", "a.é", "a.\xff", "a\xff.b", "a/b", strings.Repeat("a", 41), strings.Repeat("a", 41) + ".b", "b." + strings.Repeat("a", 41), "b." + strings.Repeat("a", 41) + ".c", fullOf(121), fullOf(122), strings.Repeat("a.", 60) + "b", strings.Repeat("a", 40) + "." + strings.Repeat("b", 40) + "." + strings.Repeat("c", 39)} {
		expectBool(t, "IsFull", IsFull, s, false)
	}
}

// P6.1: parts of MaxName bytes and full names of MaxFull bytes are the longest ones.
func TestLengths(t *testing.T) {
	for n := range 130 {
		expectBool(t, "IsPart", IsPart, strings.Repeat("x", n), 1 <= n && n <= 40)
		expectBool(t, "IsFull", IsFull, strings.Repeat("x", n), 1 <= n && n <= 40)
		expectBool(t, "IsFull", IsFull, fullOf(n), 1 <= n && n <= 120)
	}
}

// P6.1: parts and full names by their definition, over all short strings.
func TestShortNames(t *testing.T) {
	for _, s := range over("aZ0_.-", 6) {
		full := true
		for _, part := range strings.Split(s, ".") {
			full = full && partByBytes(part)
		}
		expectBool(t, "IsPart", IsPart, s, partByBytes(s))
		expectBool(t, "IsFull", IsFull, s, full)
	}
}

// P6.1: the keywords, all of them, and nothing that is near to one.
func TestIsWord(t *testing.T) {
	words := keywords()
	if len(words) != 21 {
		t.Fatalf("%d keywords", len(words))
	}
	for _, s := range words {
		expectBool(t, "IsWord", IsWord, s, true)
		expectBool(t, "IsPart", IsPart, s, true)
		expectBool(t, "IsFull", IsFull, s, true)
		for _, wrong := range []string{strings.ToUpper(s), strings.ToUpper(s[:1]) + s[1:], s[1:], s[:len(s)-1], s + "s", s + " ", " " + s, s + "_", "." + s, s + ".", s + s, s + "\x00"} {
			expectBool(t, "IsWord", IsWord, wrong, false)
		}
	}
	for _, s := range []string{"", "a", "bool", "i32", "u64", "text", "bytes", "float", "double", "fix32", "float32", "string", "import_", "package", "syntax", "repeated", "oneof", "extend", "returns.", "return", "public", "infinity", "NaN", "null", "nil", "to", "max", "version", "field", "note", "const"} {
		expectBool(t, "IsWord", IsWord, s, false)
	}
}

// P6.2: Join puts a dot behind any scope but the empty one.
func TestJoin(t *testing.T) {
	for _, c := range [][3]string{
		{"", "", ""}, {"", "a", "a"}, {"a", "", "a."}, {"a", "b", "a.b"}, {"a.b", "C", "a.b.C"}, {"a", "b.c", "a.b.c"},
		{"", ".a", ".a"}, {".", "", ".."}, {".", "a", "..a"}, {"a.", "b", "a..b"}, {"a", ".b", "a..b"}, {"\xff", "é ", "\xff.é "}, {" ", "\x00", " .\x00"},
		{strings.Repeat("a", 200), "b", strings.Repeat("a", 200) + ".b"},
	} {
		if got := Join(c[0], c[1]); got != c[2] {
			t.Errorf("Join(%q, %q) = %q, expected %q", c[0], c[1], got, c[2])
		}
	}
}

// P6.2: Split takes any string apart at its last dot.
func TestSplit(t *testing.T) {
	for _, c := range [][3]string{
		{"", "", ""}, {"C", "", "C"}, {"a.C", "a", "C"}, {"a.b.C", "a.b", "C"}, {".", "", ""}, {"..", ".", ""}, {"...", "..", ""},
		{".a", "", "a"}, {"a.", "a", ""}, {"a..b", "a.", "b"}, {".a.", ".a", ""}, {"..a", ".", "a"}, {"é\xff.\x00 ", "é\xff", "\x00 "}, {"a/b", "", "a/b"},
		{strings.Repeat("a", 200) + ".1", strings.Repeat("a", 200), "1"},
	} {
		expectSplit(t, c[0], c[1], c[2])
	}
	for _, s := range over("a1.", 7) {
		i := strings.LastIndex(s, ".")
		if i < 0 {
			expectSplit(t, s, "", s)
			continue
		}
		expectSplit(t, s, s[:i], s[i+1:])
	}
}

// P6.2: Up lists the scopes from the string itself to the empty one.
func TestUp(t *testing.T) {
	expectUp(t, "", "")
	expectUp(t, "a", "a", "")
	expectUp(t, "a.b.C", "a.b.C", "a.b", "a", "")
	expectUp(t, ".", ".", "")
	expectUp(t, "..", "..", ".", "")
	expectUp(t, "...", "...", "..", ".", "")
	expectUp(t, ".a", ".a", "")
	expectUp(t, "a.", "a.", "a", "")
	expectUp(t, "a..b", "a..b", "a.", "a", "")
	expectUp(t, "..a", "..a", ".", "")
	expectUp(t, ".a.b", ".a.b", ".a", "")
	expectUp(t, "1 \xff.é", "1 \xff.é", "1 \xff", "")
	expectUp(t, "message", "message", "")
	for _, s := range over("ab.", 7) {
		expectUp(t, s, upByDots(s)...)
	}
}

// P6.2, 0.4: two results of Up share no memory.
func TestUpIsNew(t *testing.T) {
	first, second := Up("a.b"), Up("a.b")
	first[0], first[1], first[2] = "x", "y", "z"
	if !slices.Equal(second, []string{"a.b", "a", ""}) {
		t.Errorf("Up(\"a.b\") = %q after another result was changed", second)
	}
}

// P6.3: names that do not begin with a dot mean what the innermost scope has.
func TestResolve(t *testing.T) {
	all := []string{"D", "a.D", "a.b.D", "a.b.C.D", "a.C", "b.D", "a.b.a.D"}
	expectResolve(t, "a.b.C", "D", all, "a.b.C.D", true)
	expectResolve(t, "a.b", "D", all, "a.b.D", true)
	expectResolve(t, "a.b", "D", []string{"D", "a.D"}, "a.D", true)
	expectResolve(t, "a.b", "D", []string{"a.D", "D"}, "a.D", true)
	expectResolve(t, "a.b", "D", []string{"D"}, "D", true)
	expectResolve(t, "a", "D", all, "a.D", true)
	expectResolve(t, "", "D", all, "D", true)
	expectResolve(t, "", "D", []string{"a.D"}, "", false)
	expectResolve(t, "x.y.z", "D", all, "D", true)
	expectResolve(t, "a.b", "b.D", all, "a.b.D", true)
	expectResolve(t, "", "b.D", all, "b.D", true)
	expectResolve(t, "a.b", "a.D", all, "a.b.a.D", true)
	expectResolve(t, "a.b", "a.D", []string{"a.D", "D"}, "a.D", true)
	expectResolve(t, "a.b", "C", all, "a.C", true)
	expectResolve(t, "a.b", "E", all, "", false)
	expectResolve(t, "a.b", "D", nil, "", false)
	expectResolve(t, "", "", nil, "", false)
}

// P6.3: neither a scope beside those that Up lists, nor a name that only ends in the name, is meant.
func TestResolveOthers(t *testing.T) {
	for _, k := range []string{"ab.D", "a.bc.D", "a.b.C.D", "b.D", "a.b.E", "a.bD", "abD", "aD", "DD", "D.D", "a.b.D.", ".a.b.D", "a.b..D", ".D", "D.", "a.b.d", "A.b.D", "a.b", "a", "", "a.b.", ".", "d"} {
		expectResolve(t, "a.b", "D", []string{k}, "", false)
		expectResolve(t, "a.b", "D", []string{k, "D", k}, "D", true)
	}
}

// P6.3: a name that begins with a dot means what follows the dot, whatever the scope is.
func TestResolveDot(t *testing.T) {
	expectResolve(t, "a.b", ".a.D", []string{"a.b.a.D", "a.D", "D"}, "a.D", true)
	expectResolve(t, "a.b", ".a.D", []string{"a.b.a.D", "D"}, "", false)
	expectResolve(t, "a.b", ".D", []string{"a.b.D", "a.D"}, "", false)
	expectResolve(t, "a.b", ".D", []string{"a.b.D", "D"}, "D", true)
	expectResolve(t, "a.b", ".D", []string{".D", "a.b..D", "a..D"}, "", false)
	expectResolve(t, "a.b", "..D", []string{".D", "D"}, ".D", true)
	expectResolve(t, "a.b", "..D", []string{"..D", "D", "a.D"}, "", false)
	expectResolve(t, "a.b", ".", []string{"a", "."}, "", false)
	expectResolve(t, "a.b", ".", []string{"a", ""}, "", true)
	expectResolve(t, "", ".", []string{""}, "", true)
	expectResolve(t, "", ".D", []string{"D"}, "D", true)
	expectResolve(t, "", ".D", []string{".D"}, "", false)
}

// P6.3: any strings are scopes, names and known.
func TestResolveAnyStrings(t *testing.T) {
	expectResolve(t, "a.b", "", []string{"a.", "a.b."}, "a.b.", true)
	expectResolve(t, "a.b", "", []string{"", "a."}, "a.", true)
	expectResolve(t, "a.b", "", []string{"", "b."}, "", true)
	expectResolve(t, "a.b", "", []string{"."}, "", false)
	expectResolve(t, "", "", []string{""}, "", true)
	expectResolve(t, ".", "D", []string{"..D", ".D", "D"}, "..D", true)
	expectResolve(t, ".", "D", []string{".D"}, "", false)
	expectResolve(t, "a..b", "D", []string{"a.D", "a..D"}, "a..D", true)
	expectResolve(t, "a.", "D", []string{"D", "a.D", "a..D"}, "a..D", true)
	expectResolve(t, ".a", "D", []string{"D", ".D", "a.D"}, "D", true)
	expectResolve(t, "\xff.é", " \x00", []string{" \x00", "\xff. \x00"}, "\xff. \x00", true)
	expectResolve(t, "1.2", "3.", []string{"1.3.", "3."}, "1.3.", true)
}

// P6.3, P6.5: the first known one from the innermost scope on, for all short strings, in both orders of what is known.
func TestResolveShort(t *testing.T) {
	texts := over("ab.", 3)
	known := over("ab.", 4)
	lists := [][]string{known}
	for i := range known {
		lists = append(lists, []string{known[i]}, []string{known[i], known[i*7%len(known)], known[i*31%len(known)]})
		if i%10 == 0 {
			lists = append(lists, known[i:], known[:i])
		}
	}
	for _, l := range slices.Clone(lists) {
		turned := slices.Clone(l)
		slices.Reverse(turned)
		lists = append(lists, turned)
	}
	for _, scope := range texts {
		for _, name := range texts {
			for _, l := range lists {
				if full, ok := resolveInOrder(scope, name, l); ok || len(l) > 1 || len(scope) < 3 {
					expectResolve(t, scope, name, l, full, ok)
				}
			}
		}
	}
}

// P6.3, 0.4: what is known is not changed.
func TestResolveKeepsKnown(t *testing.T) {
	known := []string{"D", "b.D", "a.D", "a.b.D", "A"}
	before := slices.Clone(known)
	Resolve("a.b", "D", known)
	Resolve("a.b", ".D", known)
	if !slices.Equal(known, before) {
		t.Errorf("Resolve changed %q to %q", before, known)
	}
}

// P6.4: pieces begin with capital letters where they begin with letters.
func TestCamel(t *testing.T) {
	for s, want := range map[string]string{
		"a": "A", "A": "A", "z": "Z", "user_id": "UserId", "a__b_1": "AB1", "a_": "A", "a__": "A", "a_b_": "AB", "userId": "UserId", "user_Id": "UserId",
		"USER_ID": "USERID", "a_1b": "A1b", "a1_b2": "A1B2", "a_b_c_d": "ABCD", "message": "Message", "x_9_y": "X9Y", "aBC": "ABC", "a___z": "AZ",
		"z" + strings.Repeat("_", 39): "Z", strings.Repeat("a", 40): "A" + strings.Repeat("a", 39), strings.Repeat("a_", 20): strings.Repeat("A", 20),
	} {
		expectString(t, "Camel", Camel, s, want)
	}
}

// P6.4: capital letters become small ones behind an underscore.
func TestSnake(t *testing.T) {
	for s, want := range map[string]string{
		"a": "a", "A": "a", "Z": "z", "UserId": "user_id", "userId": "user_id", "aBC": "a_b_c", "ABC": "a_b_c", "a_b": "a_b", "a_B": "a__b", "A_": "a_", "A__B_1": "a___b_1",
		"a1B2": "a1_b2", "user_id": "user_id", "Message": "message", "aZ": "a_z", "aA": "a_a", "X9Y": "x9_y",
		strings.Repeat("A", 40): "a" + strings.Repeat("_a", 39), strings.Repeat("a", 39) + "B": strings.Repeat("a", 39) + "_b",
	} {
		expectString(t, "Snake", Snake, s, want)
	}
}

// P6.4: each letter of the alphabet, at the first place, at a later one and behind an underscore.
func TestLetters(t *testing.T) {
	for i := range 26 {
		s, c := smalls[i:i+1], capitals[i:i+1]
		expectString(t, "Camel", Camel, s+s+"_"+s+s, c+s+c+s)
		expectString(t, "Camel", Camel, c+c+"_"+c+c, c+c+c+c)
		expectString(t, "Snake", Snake, s+c+s+"_"+s, s+"_"+s+s+"_"+s)
		expectString(t, "Snake", Snake, c+c+s+"_"+c, s+"_"+s+s+"__"+s)
	}
	for i := range 10 {
		d := digits[i : i+1]
		expectString(t, "Camel", Camel, "a"+d+"_"+d+"b", "A"+d+d+"b")
		expectString(t, "Snake", Snake, "A"+d+"_"+d+"B", "a"+d+"_"+d+"_b")
	}
}

// P6.4: of what is no part both are empty.
func TestNoParts(t *testing.T) {
	for _, s := range []string{"", "1a", "_a", "_", "a.b", ".a", "a b", "aé", "é", "a\xff", "A\x00", "a-b", strings.Repeat("a", 41), strings.Repeat("_", 10), strings.Repeat("A", 41)} {
		expectString(t, "Camel", Camel, s, "")
		expectString(t, "Snake", Snake, s, "")
	}
	for _, s := range over("aB1_.", 4) {
		if !partByBytes(s) {
			expectString(t, "Camel", Camel, s, "")
			expectString(t, "Snake", Snake, s, "")
		} else if Camel(s) == "" || Snake(s) == "" {
			t.Errorf("Camel(%q) = %q, Snake = %q", s, Camel(s), Snake(s))
		}
	}
}

// P6.5: of two scopes that have the name, one within the other, the inner one counts; those that do not enclose the place never do.
func TestInnermost(t *testing.T) {
	scopes := upByDots("a.b.c.d.e")
	for i, inner := range scopes {
		for _, outer := range scopes[i+1:] {
			in, out := strings.TrimPrefix(inner+".X", "."), strings.TrimPrefix(outer+".X", ".")
			expectResolve(t, "a.b.c.d.e", "X", []string{in, "a.b.c.d.e.f.X", out, "b.c.X"}, in, true)
			expectResolve(t, "a.b.c.d.e", "X", []string{"a.b.c.d.e.f.X", out, "e.X", in}, in, true)
		}
	}
}

// P6.6: Join inverts Split, and Up has an element for each part and one more.
func TestSplitAndUpOfFullNames(t *testing.T) {
	names := []string{"a", "a.B2", "a.b.C", strings.Repeat("a.", 59) + "b", fullOf(120), strings.Repeat("a", 40) + "." + strings.Repeat("b", 40)}
	for _, s := range over("aZ1_.", 6) {
		if IsFull(s) {
			names = append(names, s)
		}
	}
	for _, s := range names {
		scope, name := Split(s)
		if Join(scope, name) != s || !IsPart(name) || scope != "" && !IsFull(scope) {
			t.Errorf("Split(%q) = %q, %q", s, scope, name)
		}
		if got := Up(s); len(got) != strings.Count(s, ".")+2 {
			t.Errorf("Up(%q) = %q", s, got)
		}
	}
}

// P6.7: what Camel returns of parts, and where Snake inverts it.
func TestCamelAndSnake(t *testing.T) {
	parts := over("azAZ09_", 6)
	parts = append(parts, strings.Repeat("a_", 19)+"ab", strings.Repeat("ab", 20), strings.Repeat("z", 39)+"_")
	inverted := 0
	for _, s := range parts {
		if !partByBytes(s) {
			continue
		}
		c := Camel(s)
		if !partByBytes(c) || strings.Contains(c, "_") || strings.Index(capitals, c[:1]) < 0 {
			t.Errorf("Camel(%q) = %q", s, c)
		}
		if !strings.ContainsAny(s, capitals) && letterFollows(s) {
			expectString(t, "Snake", Snake, c, s)
			inverted++
		}
	}
	if inverted < 1000 {
		t.Errorf("Snake inverts Camel for %d parts only", inverted)
	}
}

// letterFollows reports whether behind each underscore of s there is a letter.
func letterFollows(s string) bool {
	for i := range len(s) {
		if s[i] == '_' && (i+1 == len(s) || strings.IndexByte(smalls, s[i+1]) < 0) {
			return false
		}
	}
	return true
}

// The time grows with the length only: strings of megabytes, and thousands of known names, are examined in no noticeable time.
func TestLong(t *testing.T) {
	long := strings.Repeat("a.", 1<<20)
	expectBool(t, "IsPart", IsPart, strings.Repeat("a", 1<<22), false)
	expectBool(t, "IsFull", IsFull, long, false)
	expectBool(t, "IsWord", IsWord, long, false)
	expectString(t, "Camel", Camel, long, "")
	if got := Up(long); len(got) != 1<<20+2 {
		t.Errorf("Up returns %d strings", len(got))
	}
	known := []string{long + ".D", long[:len(long)-1] + ".D", "a.D", "D"}
	for i := range 10000 {
		known = append(known, strings.Repeat("b.", i%50)+"D")
	}
	expectResolve(t, long, "D", known, long+".D", true)
	expectResolve(t, long[:1<<20], "D", known, "a.D", true)
	expectResolve(t, long, "E", known, "", false)
}

// 0.1, 0.3: no strings make a function panic, and the results are what the references say.
func FuzzIdent(f *testing.F) {
	f.Add("a.b.C", "D", "a.b.D", "D")
	f.Add("", ".", "", "a..b")
	f.Add("user_id", ".UserId", "UserId", "_")
	f.Fuzz(func(t *testing.T, a, b, c, d string) {
		known := []string{c, d, a + "." + b, b, "a." + b}
		for n := range len(known) + 1 {
			full, ok := resolveInOrder(a, b, known[:n])
			expectResolve(t, a, b, known[:n], full, ok)
		}
		expectUp(t, a, upByDots(a)...)
		expectBool(t, "IsPart", IsPart, a, partByBytes(a))
		expectBool(t, "IsWord", IsWord, a, slices.Contains(keywords(), a))
		if (Camel(a) != "") != partByBytes(a) || (Snake(a) != "") != partByBytes(a) {
			t.Errorf("Camel(%q) = %q, Snake = %q", a, Camel(a), Snake(a))
		}
		if scope, name := Split(a); strings.Contains(name, ".") || Join(scope, name) != strings.TrimPrefix(a, ".") && Join(scope, name) != a {
			t.Errorf("Split(%q) = %q, %q", a, scope, name)
		}
	})
}
