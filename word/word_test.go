package word

import (
	"cardgame/api"
	"slices"
	"strings"
	"testing"
)

// depthAt is the chapter's definition of the depth of an offset, written without the package.
func depthAt(s string, offset int) int {
	depth := 0
	for _, c := range []byte(s[:offset]) {
		if strings.IndexByte("([", c) >= 0 {
			depth++
		} else if strings.IndexByte(")]", c) >= 0 && depth > 0 {
			depth--
		}
	}
	return depth
}

// eachText calls f with every text of up to size bytes of the alphabet.
func eachText(alphabet string, size int, f func(s string)) {
	var extend func(s string)
	extend = func(s string) {
		f(s)
		if len(s) < size {
			for i := range len(alphabet) {
				extend(s + alphabet[i:i+1])
			}
		}
	}
	extend("")
}

func TestIs(t *testing.T) { // P2.1
	for _, s := range []string{
		"a", "z", "m", "fox", "ember-fox", "a-b-c", "b2", "a0", "a9", "a-2", "x1-2y", "a0-0", "z9z9",
		strings.Repeat("a", api.MaxName), strings.Repeat("a", api.MaxName-2) + "-0", strings.Repeat("a-", api.MaxName/2-1) + "zz",
	} {
		if !Is(s) {
			t.Errorf("Is(%q) = false", s)
		}
	}
}

func TestIsRejects(t *testing.T) { // P2.1
	for _, s := range []string{
		"", "-", "--", "-a", "a-", "a--b", "a---b", "a-b--c", "0", "2a", "9-a", "A", "aB", "Ember", "a_b", "a b", " a", "a ", "a\n",
		"a.b", "a/b", "a:b", "a+b", "a(b", "a[b]", "a\x00", "\x00", "a`", "`a", "a{", "{a", "a@", "a,", "\u00e9", "a\u00e9", "a\u00adb",
		"a\u2010b", "\uff41", "a\u0661", "a\x80", "\xff",
		strings.Repeat("a", api.MaxName+1), strings.Repeat("a", api.MaxName) + "-", strings.Repeat("a", api.MaxName-1) + "-",
		strings.Repeat("a", api.MaxText), strings.Repeat("-", api.MaxName),
	} {
		if Is(s) {
			t.Errorf("Is(%.40q) = true", s)
		}
	}
}

func TestIsForEveryByte(t *testing.T) { // P2.1
	for c := range 256 {
		letter := 'a' <= c && c <= 'z'
		inside := letter || '0' <= c && c <= '9'
		b := string([]byte{byte(c)})
		for s, want := range map[string]bool{b: letter, b + "a": letter, "a" + b: inside, "a" + b + "a": inside || c == '-'} {
			if Is(s) != want {
				t.Errorf("Is(%q) = %v", s, !want)
			}
		}
	}
}

func TestSplit(t *testing.T) { // P2.2
	for _, c := range []struct {
		s    string
		by   byte
		want []string
	}{
		{"a b c", ' ', []string{"a", "b", "c"}},
		{"a (b c) d", ' ', []string{"a", "(b c)", "d"}},
		{"a [b c] d", ' ', []string{"a", "[b c]", "d"}},
		{"f(a,b),g[c,(d,e)],h", ',', []string{"f(a,b)", "g[c,(d,e)]", "h"}},
		{"", ' ', []string{""}},
		{" ", ' ', []string{"", ""}},
		{"  ", ' ', []string{"", "", ""}},
		{" a  b ", ' ', []string{"", "a", "", "b", ""}},
		{"abc", ',', []string{"abc"}},
		{"(a b", ' ', []string{"(a b"}},
		{"a (b c", ' ', []string{"a", "(b c"}},
		{") a", ' ', []string{")", "a"}},
		{"]) (a b) c", ' ', []string{"])", "(a b)", "c"}},
		{")(a b", ' ', []string{")(a b"}},
		{"(a] b", ' ', []string{"(a]", "b"}},
		{"[a) b", ' ', []string{"[a)", "b"}},
		{"([a b] c) d", ' ', []string{"([a b] c)", "d"}},
		{"{a b} <c d>", ' ', []string{"{a", "b}", "<c", "d>"}},
		{"a\x00b", 0, []string{"a", "b"}},
		{"a\xffb\xff(\xff)", 0xff, []string{"a", "b", "(\xff)"}},
		{"\u00e9", 0xc3, []string{"", "\xa9"}},
		{"a\nb\n", '\n', []string{"a", "b", ""}},
	} {
		if got := Split(c.s, c.by); !slices.Equal(got, c.want) {
			t.Errorf("Split(%q, %q) = %q, want %q", c.s, c.by, got, c.want)
		}
	}
}

func TestSplitAtABracket(t *testing.T) { // P2.2
	for _, by := range []byte("()[]") {
		for _, s := range []string{"", "a", "a(b", "a)b", "a[b", "a]b", "()[]", "((", "))", "[[", "]]", "a (b) [c]"} {
			if got := Split(s, by); !slices.Equal(got, []string{s}) {
				t.Errorf("Split(%q, %q) = %q", s, by, got)
			}
		}
	}
}

func TestSplitOfEveryShortText(t *testing.T) { // P2.2
	for _, by := range []byte(" a") {
		eachText("a ()[]", 6, func(s string) {
			var want []string
			part := ""
			for i := range len(s) {
				if s[i] == by && depthAt(s, i) == 0 {
					want = append(want, part)
					part = ""
				} else {
					part += s[i : i+1]
				}
			}
			want = append(want, part)
			if got := Split(s, by); !slices.Equal(got, want) {
				t.Errorf("Split(%q, %q) = %q, want %q", s, by, got, want)
			}
		})
	}
}

func TestCut(t *testing.T) { // P2.3
	for _, c := range []struct{ s, by, before, after string }{
		{"x: y: z", ": ", "x", "y: z"},
		{"when (x: y) z: w", ": ", "when (x: y) z", "w"},
		{"when [x: y] z: w", ": ", "when [x: y] z", "w"},
		{"a=b", "=", "a", "b"},
		{"=b", "=", "", "b"},
		{"a=", "=", "a", ""},
		{"=", "=", "", ""},
		{"abc", "abc", "", ""},
		{"a::b", "::", "a", "b"},
		{"a:::b", "::", "a", ":b"},
		{"a : b", ": ", "a ", "b"},
		{"aab", "ab", "a", ""},
		{"): a: b", ": ", ")", "a: b"},
		{"(a] = b", " = ", "(a]", "b"},
		{"(=)=", "=", "(=)", ""},
		{"a(b)c", "(b)", "a", "c"},
		{"a(b", "(", "a", "b"},
		{"a)b", ")", "a", "b"},
		{"(a))b", ")", "(a)", "b"},
		{"())(b", ")(", "()", "b"},
		{"(x) x(y z", "x(y", "(x) ", " z"},
		{"a\x00b", "\x00", "a", "b"},
		{"\u00e9\xff", "\xa9", "\xc3", "\xff"},
	} {
		if before, after, ok := Cut(c.s, c.by); before != c.before || after != c.after || !ok {
			t.Errorf("Cut(%q, %q) = %q, %q, %v", c.s, c.by, before, after, ok)
		}
	}
}

func TestCutWithoutAnOccurrence(t *testing.T) { // P2.3
	for _, c := range []struct{ s, by string }{
		{"", ""}, {"abc", ""}, {"(a", ""}, {"", ":"}, {"abc", ":"}, {"a:b", ": "}, {"ab", "abc"}, {"a:", ": "},
		{"(a: b)", ": "}, {"[a: b]", ": "}, {"(a: b", ": "}, {"((a): b", ": "}, {"([)=]", "="}, {"(a)", ")"}, {"[a)", ")"},
		{"A", "a"}, {"(((", "(()"}, {"(a)(b)", ")("}, {"(x(y z", "x(y"},
	} {
		if before, after, ok := Cut(c.s, c.by); before != c.s || after != "" || ok {
			t.Errorf("Cut(%q, %q) = %q, %q, %v", c.s, c.by, before, after, ok)
		}
	}
}

func TestCutOfEveryShortText(t *testing.T) { // P2.3
	for _, by := range []string{"", ":", "::", "a:", "(", ")", "[", "]", "()", ")(", ":(", ":)", "(:", "):", "]:", "a:)"} {
		eachText("a:()[]", 6, func(s string) {
			before, after, found := s, "", false
			for i := 0; by != "" && i+len(by) <= len(s) && !found; i++ {
				if s[i:i+len(by)] == by && depthAt(s, i) == 0 {
					before, after, found = s[:i], s[i+len(by):], true
				}
			}
			if b, a, ok := Cut(s, by); b != before || a != after || ok != found {
				t.Errorf("Cut(%q, %q) = %q, %q, %v", s, by, b, a, ok)
			}
		})
	}
}

func TestLines(t *testing.T) { // P2.4
	for _, c := range []struct {
		s    string
		want []string
	}{
		{"", nil},
		{"\n", []string{""}},
		{"\n\n", []string{"", ""}},
		{"a\n", []string{"a"}},
		{"a\nb\n", []string{"a", "b"}},
		{"a\n\nb\n", []string{"a", "", "b"}},
		{"\na\n\n", []string{"", "a", ""}},
		{"(a\nb)\n[\n", []string{"(a", "b)", "["}},
		{" a \r\n\tb\n", []string{" a \r", "\tb"}},
		{"a\x00\xff\n\u2028\n", []string{"a\x00\xff", "\u2028"}},
	} {
		if got, ok := Lines(c.s); !slices.Equal(got, c.want) || !ok {
			t.Errorf("Lines(%q) = %q, %v, want %q", c.s, got, ok, c.want)
		}
	}
}

func TestLinesRejects(t *testing.T) { // P2.4
	for _, s := range []string{"a", " ", "\r", "\x00", "\na", "a\nb", "a\n\nb", "a\n ", "\n\r", "a\n\x00", "a\u2028", "a\x85"} {
		if got, ok := Lines(s); len(got) != 0 || ok {
			t.Errorf("Lines(%q) = %q, %v", s, got, ok)
		}
	}
}

func TestLinesOfALongText(t *testing.T) { // P2.4
	for _, s := range []string{strings.Repeat("\n", api.MaxText), strings.Repeat("ab\n", api.MaxText), strings.Repeat("a", api.MaxText) + "\n"} {
		got, ok := Lines(s)
		if len(got) != strings.Count(s, "\n") || !ok || strings.Join(got, "\n")+"\n" != s {
			t.Errorf("Lines(%.10q..) has %d lines, %v", s, len(got), ok)
		}
		if got, ok := Lines(s + "x"); len(got) != 0 || ok {
			t.Errorf("Lines(%.10q..x) has %d lines, %v", s, len(got), ok)
		}
	}
}

func TestJoin(t *testing.T) { // P2.5
	for _, c := range []struct {
		l        []string
		by, want string
	}{
		{nil, ", ", ""}, {[]string{}, ", ", ""}, {[]string{""}, ", ", ""}, {[]string{"a"}, ", ", "a"},
		{[]string{"a", "b"}, ", ", "a, b"}, {[]string{"a", "b", "c"}, "", "abc"}, {[]string{"b", "a", "b"}, "-", "b-a-b"},
		{[]string{"", "", ""}, " ", "  "}, {[]string{"", "a", ""}, "\n", "\na\n"}, {[]string{"(", ")"}, "[", "([)"},
		{[]string{"\xff", "\x00"}, "\u00e9", "\xff\u00e9\x00"},
	} {
		if got := Join(c.l, c.by); got != c.want {
			t.Errorf("Join(%q, %q) = %q, want %q", c.l, c.by, got, c.want)
		}
	}
}

func TestSort(t *testing.T) { // P2.5
	for _, c := range []struct{ l, want []string }{
		{nil, nil}, {[]string{}, nil}, {[]string{""}, []string{""}}, {[]string{"a"}, []string{"a"}},
		{[]string{"b", "a", "b"}, []string{"a", "b"}}, {[]string{"a", "a", "a"}, []string{"a"}},
		{[]string{"c", "b", "a"}, []string{"a", "b", "c"}}, {[]string{"b", "", "a", ""}, []string{"", "a", "b"}},
		{[]string{"ab", "a", "b", "aa", "a-b"}, []string{"a", "a-b", "aa", "ab", "b"}},
		{[]string{"a10", "a9", "A", "Z", "a"}, []string{"A", "Z", "a", "a10", "a9"}},
		{[]string{"\xff", "\u00e9", "z", "\x00", "\U0001f98a"}, []string{"\x00", "z", "\u00e9", "\U0001f98a", "\xff"}},
	} {
		if got := Sort(c.l); !slices.Equal(got, c.want) {
			t.Errorf("Sort(%q) = %q, want %q", c.l, got, c.want)
		}
	}
}

func TestSortIsNewMemory(t *testing.T) { // P2.5 and rule 4
	for _, l := range [][]string{{"c", "a", "c", "b"}, {"a", "b", "c"}} {
		given := slices.Clone(l)
		got := Sort(l)
		if !slices.Equal(l, given) {
			t.Errorf("Sort changed %q to %q", given, l)
		}
		got[0] = "x"
		if !slices.Equal(l, given) {
			t.Errorf("the result of Sort(%q) shares memory with it", given)
		}
	}
}

func TestIndex(t *testing.T) { // P2.5
	l := []string{"b", "a", "b", "", "c", ""}
	for s, want := range map[string]int{"b": 0, "a": 1, "": 3, "c": 4, "d": -1, "B": -1, "bb": -1, "a ": -1} {
		if got := Index(l, s); got != want {
			t.Errorf("Index(%q, %q) = %d, want %d", l, s, got, want)
		}
	}
	if Index(nil, "") != -1 || Index([]string{}, "a") != -1 {
		t.Error("Index finds an element of an empty list")
	}
}

func TestJoinOfSplit(t *testing.T) { // P2.6
	for c := range 256 {
		by := byte(c)
		sep := string([]byte{by})
		for _, s := range []string{"", sep, sep + sep, "a" + sep + "(b" + sep + "c)" + sep, "[" + sep, ")" + sep + "a", "a (b c) [d, e]: f", "\xff\u00e9"} {
			if got := Join(Split(s, by), sep); got != s {
				t.Errorf("Join(Split(%q, %q)) = %q", s, by, got)
			}
		}
	}
}

func TestJoinOfSplitOfEveryShortText(t *testing.T) { // P2.6
	for _, by := range []byte(" a()[]") {
		eachText("a ()[]", 5, func(s string) {
			if got := Join(Split(s, by), string([]byte{by})); got != s {
				t.Errorf("Join(Split(%q, %q)) = %q", s, by, got)
			}
		})
	}
}

func TestExamples(t *testing.T) {
	parts := Split("a (b c) d", ' ')
	before, after, ok := Cut("x: y: z", ": ")
	if !slices.Equal(parts, []string{"a", "(b c)", "d"}) || before != "x" || after != "y: z" || !ok {
		t.Error("an example of the chapter fails")
	}
}
