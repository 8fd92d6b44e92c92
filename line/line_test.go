package line

import (
	"math"
	"regexp"
	"slices"
	"strings"
	"testing"

	"cardgame/api"
)

// superTexts returns the texts of the masks of supertypes, each at its mask.
func superTexts() []string {
	return []string{"", "basic ", "unique ", "basic unique "}
}

// typeWords returns the words of the types in the order of the bits.
func typeWords() []string {
	return strings.Fields("creature instant ritual relic charm land")
}

// typeTexts returns the words of the types of each mask joined by the separator, each at its mask.
func typeTexts(by string) []string {
	texts := []string{""}
	for _, w := range typeWords() {
		for _, text := range slices.Clone(texts) {
			if text != "" {
				text += by
			}
			texts = append(texts, text+w)
		}
	}
	return texts
}

// goodTypes returns the masks of types that a valid line may have.
func goodTypes() []int {
	good := []int{api.Instant, api.Ritual}
	for _, creature := range []int{0, api.Creature} {
		for _, relic := range []int{0, api.Relic} {
			for _, charm := range []int{0, api.Charm} {
				for _, land := range []int{0, api.Land} {
					good = append(good, creature|relic|charm|land)
				}
			}
		}
	}
	slices.Sort(good)
	return good[1:] // without the empty mask
}

// goodSubs returns lists of subtypes that a valid line may have.
func goodSubs() [][]string {
	long := strings.Repeat("a", api.MaxName)
	return [][]string{
		nil, {}, {"fox"}, {"fox", "hero"}, {"a", "b", "c"}, {"a", "b", "c", "d"}, {"a", "a-b", "a0", "aa"}, {"a10", "a9", "b"},
		{long[1:], long}, {"basics", "creatures", "lan", "landfall"}, {"none"}, {"z9-z9"}, {"creature-fox", "supertype", "type"},
	}
}

// badSubs returns lists of subtypes that a valid line cannot have.
func badSubs() [][]string {
	return [][]string{
		{""}, {"", "a"}, {"A"}, {"a", "B"}, {"a", "é"}, {"-a"}, {"a-"}, {"a--b"}, {"9a"}, {"a b"}, {"a "}, {" a"}, {"a\n"}, {"(a)"}, {"a+b"},
		{strings.Repeat("a", api.MaxName+1)}, {"b", "a"}, {"a", "a"}, {"a", "b", "b"}, {"a", "c", "b"}, {"a", "b", "d", "c"}, {"b", "a", "c", "d"},
		{"a9", "a10"}, {"aa", "a"}, {"a", "b", "c", "d", "e"}, {"a", "b", "c", "d", "e", "f"}, {"e", "d", "c", "b", "a"},
		{"a", "", "b"}, {"a", "b", "c", ""}, {"a", "b", "c", "z-"}, {"basic"}, {"unique"}, {"creature"}, {"instant"}, {"ritual"}, {"relic"}, {"charm"}, {"land"},
		{"a", "land"}, {"land", "z"}, {"a", "b", "c", "creature"}, slices.Repeat([]string{"a"}, 1<<16),
	}
}

// badMasks returns masks that contain unknown bits.
func badMasks() []int {
	bad := []int{math.MinInt, math.MinInt + 1, -1 << 32, -1 << 31, -64, -63, -4, -2, -1, 64, 65, 127, 128, 1 << 30, 1<<31 - 1, 1 << 31, 1 << 32, 1<<32 + 1, math.MaxInt}
	for i := 6; i < 63; i++ {
		bad = append(bad, 1<<i, 1<<i|1, 1<<i|2, 1<<i|63, -1<<i|1)
	}
	return bad
}

// eachGood calls f for every supertype and type that a valid line may have, with each of some lists of subtypes,
// and with the text that the chapter says.
func eachGood(f func(l api.Line, text string)) {
	for super, superText := range superTexts() {
		for _, types := range goodTypes() {
			for _, subs := range goodSubs() {
				text := superText + typeTexts(" ")[types]
				for _, sub := range subs {
					text += " " + sub
				}
				f(api.Line{Super: super, Types: types, Subs: subs}, text)
			}
		}
	}
}

// badLines returns lines that are invalid in one respect.
func badLines() []api.Line {
	bad := []api.Line{{}, {Super: api.Basic}, {Subs: []string{"fox"}}, {Super: api.Unique, Subs: []string{"fox"}}}
	for types := range api.AllTypes + 1 {
		if !slices.Contains(goodTypes(), types) {
			bad = append(bad, api.Line{Super: api.Unique, Types: types, Subs: []string{"fox"}}, api.Line{Types: types})
		}
	}
	for _, mask := range badMasks() {
		bad = append(bad, api.Line{Super: mask, Types: api.Creature}, api.Line{Types: mask}, api.Line{Super: api.Basic, Types: mask, Subs: []string{"a"}})
	}
	for super := api.AllSupers + 1; super < 64; super++ {
		bad = append(bad, api.Line{Super: super, Types: api.Creature})
	}
	for _, subs := range badSubs() {
		bad = append(bad, api.Line{Types: api.Creature, Subs: subs}, api.Line{Super: api.AllSupers, Types: api.Instant, Subs: subs})
	}
	return bad
}

func TestIs(t *testing.T) { // P10.1
	eachGood(func(l api.Line, text string) {
		if !Is(l) {
			t.Errorf("Is(%v) = false", l)
		}
	})
	for _, l := range badLines() {
		if Is(l) {
			t.Errorf("Is(%.60v) = true", l)
		}
	}
}

func TestIsForEveryMaskOfTypes(t *testing.T) { // P10.1
	for types := -70; types < 200; types++ {
		both := types&api.Instant != 0 || types&api.Ritual != 0
		alone := types == 2 || types == 4
		want := 1 <= types && types <= api.AllTypes && (!both || alone)
		if got := Is(api.Line{Types: types}); got != want {
			t.Errorf("Is with the types %d = %v", types, got)
		}
	}
	for super := -9; super < 70; super++ {
		if got := Is(api.Line{Super: super, Types: api.Land}); got != (0 <= super && super <= 3) {
			t.Errorf("Is with the supertypes %d = %v", super, got)
		}
	}
}

func TestIsSub(t *testing.T) { // P10.1
	for _, s := range []string{
		"a", "z", "fox", "ember-fox", "hero", "a0", "a-0", "x1-2y", "basics", "basi", "uniqu", "unique-one", "creature-x", "xcreature",
		"instants", "rituals", "relics", "charmed", "lan", "lands", "land-0", "none", "permanent", "legendary", "artifact", "type", "sub",
		strings.Repeat("a", api.MaxName), strings.Repeat("a", api.MaxName-2) + "-0",
	} {
		if !IsSub(s) {
			t.Errorf("IsSub(%q) = false", s)
		}
	}
	for _, s := range []string{
		"basic", "unique", "creature", "instant", "ritual", "relic", "charm", "land",
		"", " ", "-", "-a", "a-", "a--b", "0", "9a", "A", "Fox", "fox hero", " fox", "fox ", "fox\n", "fox\x00", "fox+hero", "(fox)",
		"Land", "LAND", "land ", " land", "land-", "-land", "basic unique", "creature+land", "\u00e9", "f\u00f6x", "\uff46ox", "\xff",
		strings.Repeat("a", api.MaxName+1), strings.Repeat("land", api.MaxText),
	} {
		if IsSub(s) {
			t.Errorf("IsSub(%.60q) = true", s)
		}
	}
}

func TestHasSub(t *testing.T) { // P10.1
	for _, c := range []struct {
		subs []string
		sub  string
		want bool
	}{
		{nil, "fox", false}, {nil, "", false}, {[]string{}, "fox", false}, {[]string{"fox"}, "fox", true}, {[]string{"fox"}, "Fox", false},
		{[]string{"fox"}, "fo", false}, {[]string{"fox"}, "foxes", false}, {[]string{"fox"}, "", false}, {[]string{"fox", "hero"}, "fox hero", false},
		{[]string{"a", "b", "c", "d"}, "a", true}, {[]string{"a", "b", "c", "d"}, "b", true}, {[]string{"a", "b", "c", "d"}, "c", true},
		{[]string{"a", "b", "c", "d"}, "d", true}, {[]string{"a", "b", "c", "d"}, "e", false}, {[]string{"b", "d"}, "c", false},
		// Lines that are invalid have elements too.
		{[]string{"d", "c", "b", "a"}, "a", true}, {[]string{"d", "c", "b", "a"}, "d", true}, {[]string{"b", "a", "c"}, "b", true},
		{[]string{"b", "b"}, "b", true}, {[]string{""}, "", true}, {[]string{"a", "", "B"}, "B", true}, {[]string{"land"}, "land", true},
		{[]string{"a", "b", "c", "d", "e", "f"}, "f", true}, {[]string{"a b"}, "a", false},
	} {
		for _, l := range []api.Line{{Types: api.Creature, Subs: c.subs}, {Subs: c.subs}, {Super: -1, Types: math.MaxInt, Subs: c.subs}} {
			if got := HasSub(l, c.sub); got != c.want {
				t.Errorf("HasSub(%v, %q) = %v", l, c.sub, got)
			}
		}
	}
	for _, w := range typeWords() {
		if HasSub(api.Line{Super: api.AllSupers, Types: api.AllTypes}, w) {
			t.Errorf("HasSub finds the type %s among the subtypes", w)
		}
	}
}

func TestSame(t *testing.T) { // P10.1
	lists := [][]string{
		nil, {"a"}, {"b"}, {"A"}, {""}, {"a", "b"}, {"b", "a"}, {"a b"}, {"ab"}, {"a", "b", "c"}, {"a", "", "b"}, {"a", "a"},
		{"a", "b", "c", "d"}, {"a", "b", "c", "e"}, {"a", "b", "c", "d", "e"}, {"a", "b", "c", "d", "f"}, {"land"},
	}
	var lines []api.Line
	for _, super := range []int{-1, 0, 1, 2, 3, 1 << 32} {
		for _, types := range []int{-1, 0, 1, 2, 3, 63, 1<<32 + 1} {
			for _, subs := range lists {
				lines = append(lines, api.Line{Super: super, Types: types, Subs: subs})
			}
		}
	}
	for i, a := range lines {
		for j, b := range lines {
			b.Subs = slices.Clone(b.Subs)
			if got := Same(a, b); got != (i == j) {
				t.Fatalf("Same(%v, %v) = %v", a, b, got)
			}
		}
	}
}

func TestSameOfEmptyLists(t *testing.T) { // P10.1 and rule 4
	a, b := api.Line{Types: api.Land}, api.Line{Types: api.Land, Subs: []string{}}
	c := api.Line{Types: api.Land, Subs: make([]string, 0, 3)}
	if !Same(a, a) || !Same(a, b) || !Same(b, a) || !Same(b, c) || !Same(api.Line{}, api.Line{}) {
		t.Error("lines without subtypes are not equal")
	}
}

func TestText(t *testing.T) { // P10.2
	eachGood(func(l api.Line, text string) {
		if got := Text(l); got != text {
			t.Errorf("Text(%v) = %q, want %q", l, got, text)
		}
	})
	for _, l := range badLines() {
		if got := Text(l); got != "" {
			t.Errorf("Text(%.60v) = %.60q of an invalid line", l, got)
		}
	}
}

func TestTextOfSomeLines(t *testing.T) { // P10.2
	for _, c := range []struct {
		super, types int
		subs, want   string
	}{
		{0, api.Creature, "", "creature"},
		{0, api.Instant, "", "instant"},
		{0, api.Ritual, "arcane", "ritual arcane"},
		{api.Basic, api.Land, "hill", "basic land hill"},
		{api.Unique, api.Creature, "fox hero", "unique creature fox hero"},
		{api.Unique, api.Instant, "", "unique instant"},
		{api.Basic | api.Unique, api.Permanent, "a b c d", "basic unique creature relic charm land a b c d"},
		{0, api.Relic | api.Charm, "axe", "relic charm axe"},
	} {
		if got := Text(api.Line{Super: c.super, Types: c.types, Subs: strings.Fields(c.subs)}); got != c.want {
			t.Errorf("Text of %v = %q", c, got)
		}
	}
}

// lineForm is the form of the text of a line with a blank before each word, but for the order and length of its subtypes.
var lineForm = regexp.MustCompile(`^( basic)?( unique)?( instant| ritual|(?: creature)?(?: relic)?(?: charm)?(?: land)?)((?: [a-z][a-z0-9]*(?:-[a-z0-9]+)*){0,4})$`)

// wantLine returns the valid line with the text s and whether there is one.
func wantLine(s string) (api.Line, bool) {
	m := lineForm.FindStringSubmatch(" " + s)
	if m == nil || m[3] == "" {
		return api.Line{}, false
	}
	l := api.Line{Subs: strings.Fields(m[4])}
	for i, text := range m[1:3] {
		if text != "" {
			l.Super |= 1 << i
		}
	}
	for i, w := range typeWords() {
		if slices.Contains(strings.Fields(m[3]), w) {
			l.Types |= 1 << i
		}
	}
	for i, sub := range l.Subs {
		if slices.Contains(typeWords(), sub) || sub == "basic" || sub == "unique" || len(sub) > 32 || i > 0 && l.Subs[i-1] >= sub {
			return api.Line{}, false
		}
	}
	return l, true
}

// checkParse compares Parse(s) with wantLine.
func checkParse(t *testing.T, s string) {
	t.Helper()
	want, ok := wantLine(s)
	wantErr := api.OK
	if !ok {
		wantErr = api.ErrForm
	}
	got, err := Parse(s)
	if got.Super != want.Super || got.Types != want.Types || !slices.Equal(got.Subs, want.Subs) || err != wantErr {
		t.Errorf("Parse(%.80q) = %.80v, %v, want %v, %v", s, got, err, want, wantErr)
	}
}

// eachList calls f with every list of up to size of the words, joined by the separator.
func eachList(words []string, by string, size int, f func(s string)) {
	lists := words
	for n := range size {
		var longer []string
		for _, s := range lists {
			f(s)
			if n+1 == size {
				continue
			}
			for _, w := range words {
				longer = append(longer, s+by+w)
			}
		}
		lists = longer
	}
}

// eachNeighbour calls f with every text that differs from s in one place.
func eachNeighbour(s string, f func(s string)) {
	f(strings.ToUpper(s))
	f(strings.ReplaceAll(s, " ", "  "))
	f(strings.ReplaceAll(s, " ", "+"))
	f(strings.ReplaceAll(s, "+", " "))
	f(s + "\n")
	for i := range len(s) + 1 {
		f(s[:i])
		f(s[i:])
		for _, c := range append(strings.Split("+ - , | a d z A 0 9 ( ) [ ] é \x00 \xff", " "), " ", "\n", "\t", "") {
			f(s[:i] + c + s[i:])
			if i < len(s) {
				f(s[:i] + c + s[i+1:])
			}
		}
		if i+1 < len(s) {
			f(s[:i] + s[i+1:i+2] + s[i:i+1] + s[i+2:])
		}
	}
}

func TestParse(t *testing.T) { // P10.2
	for s, want := range map[string]api.Line{
		"creature":                   {Types: api.Creature},
		"instant":                    {Types: api.Instant},
		"ritual arcane":              {Types: api.Ritual, Subs: []string{"arcane"}},
		"basic land":                 {Super: api.Basic, Types: api.Land},
		"unique creature fox hero":   {Super: api.Unique, Types: api.Creature, Subs: []string{"fox", "hero"}},
		"basic unique instant a":     {Super: api.AllSupers, Types: api.Instant, Subs: []string{"a"}},
		"creature relic charm land":  {Types: api.Permanent},
		"relic land a b c d":         {Types: api.Relic | api.Land, Subs: []string{"a", "b", "c", "d"}},
		"charm a-b a0 aa":            {Types: api.Charm, Subs: []string{"a-b", "a0", "aa"}},
		"basic unique relic creat-0": {Super: api.AllSupers, Types: api.Relic, Subs: []string{"creat-0"}},
	} {
		got, err := Parse(s)
		if got.Super != want.Super || got.Types != want.Types || !slices.Equal(got.Subs, want.Subs) || err != api.OK {
			t.Errorf("Parse(%q) = %v, %v", s, got, err)
		}
	}
}

func TestParseRejects(t *testing.T) { // P10.2
	for _, s := range []string{
		"", " ", "  ", "basic", "unique", "basic unique", "fox", "basic fox", "unique basic", "unique basic land", "basic basic land", "unique unique land",
		"creature creature", "land land", "instant instant", "instant creature", "creature instant", "instant ritual", "ritual land", "relic creature",
		"land charm", "creature basic", "creature unique", "fox creature", "creature fox land", "basic fox land", "land basic", "instant a basic",
		"creature hero fox", "creature fox fox", "creature a b c d e", "creature a b d c", "creature a10 a9 b c d", "creature b aa a", "creature a9 a10",
		"creature ", " creature", "creature  fox", "creature fox ", "creature\tfox", "creature\n", "creature\x00", "creature+land", "creature,fox",
		"Creature", "CREATURE", "creature Fox", "creature -fox", "creature fox-", "creature f--ox", "creature 9", "creature (fox)", "creature (fox hero)",
		"(creature)", "(creature fox)", "[creature", "creature ]", "(", ")", "creature [", "creatures", "creatur", "land f\u00f6x", "land \u00a0fox",
		"land\u00a0fox", "\u0441reature", "legendary creature", "artifact", "1", "0", "permanent", "none",
		"creature " + strings.Repeat("a", api.MaxName+1), strings.Repeat("creature ", api.MaxText), strings.Repeat(" ", 1<<20), strings.Repeat("(", 1<<20),
		"creature" + strings.Repeat(" a", api.MaxText), "creature" + strings.Repeat(" creature", api.MaxText), strings.Repeat("basic ", api.MaxText) + "land",
	} {
		if l, err := Parse(s); l.Super != 0 || l.Types != 0 || len(l.Subs) != 0 || err != api.ErrForm {
			t.Errorf("Parse(%.60q) = %.60v, %v", s, l, err)
		}
	}
}

// P10.2: every list of up to four words, in every order and with repetitions.
func TestParseOfEveryShortList(t *testing.T) {
	words := append(typeWords(), "basic", "unique", "elf", "fox", "", "Fox")
	eachList(words, " ", 4, func(s string) { checkParse(t, s) })
	eachList([]string{"unique", "land", "charm", "a", "b-c", "c", "d"}, " ", 6, func(s string) { checkParse(t, s) })
}

// P10.2: every text that differs in one place from that of some lines.
func TestParseNearby(t *testing.T) {
	for _, s := range []string{
		"instant", "ritual a", "creature relic charm land", "basic land hill", "unique creature fox hero", "basic unique creature land a b c d",
		"relic " + strings.Repeat("a", api.MaxName) + " b", "charm a-b a0 z9-z",
	} {
		checkParse(t, s)
		if l, err := Parse(s); Text(l) != s || err != api.OK {
			t.Errorf("Parse(%q) = %v, %v", s, l, err)
		}
		eachNeighbour(s, func(s string) { checkParse(t, s) })
	}
}

func TestParseInvertsText(t *testing.T) { // P10.5
	eachGood(func(l api.Line, text string) {
		got, err := Parse(Text(l))
		if got.Super != l.Super || got.Types != l.Types || !slices.Equal(got.Subs, l.Subs) || err != api.OK {
			t.Errorf("Parse(Text(%v)) = %v, %v", l, got, err)
		}
	})
}

func TestTypesText(t *testing.T) { // P10.3
	for mask, want := range typeTexts("+") {
		if got := TypesText(mask); got != want {
			t.Errorf("TypesText(%d) = %q, want %q", mask, got, want)
		}
	}
	for _, mask := range append(badMasks(), 0) {
		if got := TypesText(mask); got != "" {
			t.Errorf("TypesText(%d) = %q of an invalid mask", mask, got)
		}
	}
	for mask, want := range map[int]string{
		api.Creature: "creature", api.Instant: "instant", api.Ritual: "ritual", api.Relic: "relic", api.Charm: "charm", api.Land: "land",
		api.Instant | api.Ritual: "instant+ritual", api.Permanent: "creature+relic+charm+land", api.AllTypes: "creature+instant+ritual+relic+charm+land",
	} {
		if got := TypesText(mask); got != want {
			t.Errorf("TypesText(%d) = %q, want %q", mask, got, want)
		}
	}
}

// checkTypes compares ParseTypes(s) with the texts of the masks.
func checkTypes(t *testing.T, texts []string, s string) {
	t.Helper()
	want, wantErr := slices.Index(texts, s), api.OK
	if want < 1 {
		want, wantErr = 0, api.ErrForm
	}
	if got, err := ParseTypes(s); got != want || err != wantErr {
		t.Errorf("ParseTypes(%.60q) = %v, %v, want %v, %v", s, got, err, want, wantErr)
	}
}

func TestParseTypes(t *testing.T) { // P10.3
	texts := typeTexts("+")
	for mask, s := range texts[1:] {
		if got, err := ParseTypes(s); got != mask+1 || err != api.OK {
			t.Errorf("ParseTypes(%q) = %v, %v, want %v", s, got, err, mask+1)
		}
		eachNeighbour(s, func(s string) { checkTypes(t, texts, s) })
	}
	eachList(append(typeWords(), "unique", "fox", ""), "+", 4, func(s string) { checkTypes(t, texts, s) })
	eachList(typeWords(), "+", 6, func(s string) { checkTypes(t, texts, s) })
}

func TestParseTypesRejects(t *testing.T) { // P10.3
	for _, s := range []string{
		"", " ", "+", "++", "creature+", "+creature", "creature++land", "creature+creature", "relic+creature", "land+creature", "creature +land",
		"creature land", "creature,land", "creatureland", "Creature", "LAND", "creature\n", "creature\x00", "(creature)", "(creature+land)",
		"creature+(land)", "basic", "unique", "basic+land", "unique+creature", "land+basic", "fox", "creature+fox", "fox+creature", "none", "0", "1", "63",
		"permanent", "all", "lands", "lan", "\xff", strings.Repeat("+", 1<<20), strings.Repeat("creature+", api.MaxText), "creature" + strings.Repeat("+land", api.MaxText),
		"creature" + strings.Repeat("+fox", api.MaxText), strings.Repeat("(", 1<<20) + "creature",
		"creature+a+b+c+d+e", "a+b+c+d+e+creature", "basic+unique+creature",
	} {
		if mask, err := ParseTypes(s); mask != 0 || err != api.ErrForm {
			t.Errorf("ParseTypes(%.60q) = %v, %v", s, mask, err)
		}
	}
}

func TestAddSub(t *testing.T) { // P10.4
	for _, c := range []struct{ subs, sub, want string }{
		{"", "fox", "fox"}, {"fox", "hero", "fox hero"}, {"fox", "elf", "elf fox"}, {"b d", "a", "a b d"}, {"b d", "c", "b c d"}, {"b d", "e", "b d e"},
		{"a b c", "d", "a b c d"}, {"b c d", "a", "a b c d"}, {"a c d", "b", "a b c d"}, {"a b d", "c", "a b c d"},
		{"aa", "a", "a aa"}, {"a", "aa", "a aa"}, {"a9", "a10", "a10 a9"}, {"a0", "a-b", "a-b a0"}, {"fox", "foxes", "fox foxes"},
		{"fox", strings.Repeat("a", api.MaxName), strings.Repeat("a", api.MaxName) + " fox"}, {"fox", "lands", "fox lands"}, {"fox", "basi", "basi fox"},
		// A subtype that is there already, or finds no room.
		{"fox", "fox", "fox"}, {"a b c", "a", "a b c"}, {"a b c", "b", "a b c"}, {"a b c", "c", "a b c"},
		{"b c d e", "a", "b c d e"}, {"a c d e", "b", "a c d e"}, {"a b c d", "e", "a b c d"}, {"a b c d", "d", "a b c d"}, {"a b c d e", "f", "a b c d e"},
		// Invalid lines.
		{"d b", "c", "c d b"}, {"b d a", "c", "b c d a"}, {"c b a", "z", "c b a z"}, {"b b", "a", "a b b"}, {"b b", "c", "b b c"}, {"b b", "b", "b b"},
		{"d c b", "a", "a d c b"}, {"d c b", "b", "d c b"}, {"land", "fox", "fox land"}, {"B", "a", "B a"}, {"d c b a", "e", "d c b a"}, {"e d c b a", "f", "e d c b a"},
	} {
		for _, l := range []api.Line{{Types: api.Creature}, {Super: api.AllSupers, Types: api.Permanent}, {Types: api.Instant}, {}, {Super: -1, Types: 64}, {Super: math.MaxInt, Types: math.MinInt}} {
			l.Subs = strings.Fields(c.subs)
			got := AddSub(l, c.sub)
			if got.Super != l.Super || got.Types != l.Types || !slices.Equal(got.Subs, strings.Fields(c.want)) {
				t.Errorf("AddSub(%v, %q) = %v, want the subtypes %q", l, c.sub, got, c.want)
			}
		}
	}
}

func TestAddSubOfNoSubtype(t *testing.T) { // P10.4
	for _, sub := range []string{
		"basic", "unique", "creature", "instant", "ritual", "relic", "charm", "land", "", " ", "-", "-a", "a-", "a--b", "9", "9a", "A", "Fox", "a b", "fox ",
		"fox\n", "a+b", "(a)", "\u00e9", "\xff", strings.Repeat("a", api.MaxName+1),
	} {
		for _, subs := range [][]string{nil, {"fox"}, {"", "zz"}, {"a", "b", "c"}, {"a", "b", "c", "d"}, {"c", "b", "a", "0", "1", "2"}, {sub}} {
			l := api.Line{Super: api.Basic, Types: api.Land, Subs: subs}
			got := AddSub(l, sub)
			if got.Super != l.Super || got.Types != l.Types || !slices.Equal(got.Subs, subs) {
				t.Errorf("AddSub(%v, %q) = %v", l, sub, got)
			}
		}
	}
}

func TestAddSubOfAnEmptyText(t *testing.T) { // P10.4: an invalid line may have an empty subtype, which stays less than every other one
	got := AddSub(api.Line{Types: api.Land, Subs: []string{"", "b"}}, "a")
	if !slices.Equal(got.Subs, []string{"", "a", "b"}) {
		t.Errorf("AddSub = %q", got.Subs)
	}
}

func TestAddSubIsNewMemory(t *testing.T) { // P10.4 and rule 4
	for _, size := range []int{0, 1, 2, 3, 4, 5, 9} {
		for _, sub := range []string{"a", "c", "z", "land", "", "b"} {
			room := []string{"b", "d", "e", "f", "g", "h", "i", "j", "k", "spare", "spare"}
			given := slices.Clone(room)
			got := AddSub(api.Line{Types: api.Creature, Subs: room[:size]}, sub)
			for i := range got.Subs {
				got.Subs[i] = "x"
			}
			got.Subs = append(got.Subs, "y")
			if !slices.Equal(room, given) {
				t.Errorf("AddSub to %d subtypes of %q shares memory with its argument: %q", size, sub, room)
			}
		}
	}
}

func TestAddSubKeepsLinesValid(t *testing.T) { // P10.4
	eachGood(func(l api.Line, text string) {
		for _, sub := range []string{"a", "c", "cc", "fox", "z9-z9", "land", "9"} {
			got := AddSub(l, sub)
			added := slices.Contains(got.Subs, sub) && !slices.Contains(l.Subs, sub)
			if !Is(got) || added != (sub != "land" && sub != "9" && len(l.Subs) < 4 && !slices.Contains(l.Subs, sub)) {
				t.Errorf("AddSub(%v, %q) = %v", l, sub, got)
			}
		}
	})
}

func TestExamples(t *testing.T) {
	hero, err := Parse("unique creature fox hero")
	_, clash := Parse("instant creature")
	if !Is(hero) || err != api.OK || clash != api.ErrForm || Is(api.Line{Types: api.Instant | api.Creature}) {
		t.Error("an example of the chapter fails")
	}
}
