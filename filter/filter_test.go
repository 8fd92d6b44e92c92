package filter

import (
	"math"
	"math/rand"
	"regexp"
	"slices"
	"strconv"
	"strings"
	"testing"

	"cardgame/api"
)

// condition is a word of texts of filters, and what it says.
type condition struct {
	text string
	set  func(f *api.Filter)
}

// typeWords returns the words of the types in the order of the bits.
func typeWords() []string {
	return strings.Fields("creature instant ritual relic charm land")
}

// colorNames returns the names of the colours in the order of the bits.
func colorNames() []string {
	return strings.Fields("amber cobalt jet ruby emerald")
}

// keyNames returns the names of the keywords in the order of the bits.
func keyNames() []string {
	return strings.Fields("flying reach haste vigilant trample first-strike double-strike deadly lifelink menace defender warded sturdy elusive no-attack no-block must-attack")
}

// goodSubs returns subtypes.
func goodSubs() []string {
	return []string{"fox", "a", "z9", "a-b-0", "yours", "any", "amber", "non-land", "power", "sub", "lands", "tapped", strings.Repeat("a", api.MaxName)}
}

// badSubs returns texts that are no subtypes.
func badSubs() []string {
	return []string{
		" ", "-", "A", "Fox", "9a", "a-", "-a", "a--b", "a b", " a", "a ", "a+b", "a:b", "(a)", "(a", "a)", "[a]", "é", "a\n", "a\x00", "\xff",
		"basic", "unique", "creature", "instant", "ritual", "relic", "charm", "land", "sub:a", strings.Repeat("a", api.MaxName+1), strings.Repeat("a", api.MaxText),
	}
}

// goodBounds returns bounds that are conditions, with their texts without the name of the number.
func goodBounds() map[string]api.Bound {
	bounds := map[string]api.Bound{}
	for _, n := range []int{0, 1, 2, 9, 10, 100, 999999, 1000000} {
		digits := strconv.Itoa(n)
		bounds[">="+digits] = api.Bound{Kind: api.BAtLeast, N: n}
		bounds["<="+digits] = api.Bound{Kind: api.BAtMost, N: n}
		bounds["="+digits] = api.Bound{Kind: api.BExactly, N: n}
	}
	return bounds
}

// groups returns the words of texts in their order; of each group, a text has at most one.
func groups() [][]condition {
	list := [][]condition{{}, {}, {}}
	for zone, text := range map[int]string{api.ZHand: "in-hand", api.ZLibrary: "in-library", api.ZGraveyard: "in-graveyard", api.ZExile: "in-exile", api.ZStack: "on-stack"} {
		list[0] = append(list[0], condition{text, func(f *api.Filter) { f.Zone = zone }})
	}
	list[1] = []condition{{"yours", func(f *api.Filter) { f.Who = api.You }}, {"theirs", func(f *api.Filter) { f.Who = api.Opponents }}}
	list[2] = []condition{{"self", func(f *api.Filter) { f.Self = api.OnlySelf }}, {"other", func(f *api.Filter) { f.Self = api.OnlyOther }}}
	masks := func(prefix string, names []string, field func(f *api.Filter) *int) {
		for i, name := range names {
			list = append(list, []condition{{prefix + name, func(f *api.Filter) { *field(f) |= 1 << i }}})
		}
	}
	masks("", typeWords(), func(f *api.Filter) *int { return &f.Types })
	masks("non-", typeWords(), func(f *api.Filter) *int { return &f.NotTypes })
	masks("", colorNames(), func(f *api.Filter) *int { return &f.Colors })
	masks("non-", colorNames(), func(f *api.Filter) *int { return &f.NotColors })
	var subs []condition
	for _, s := range goodSubs() {
		subs = append(subs, condition{"sub:" + s, func(f *api.Filter) { f.Sub = s }})
	}
	list = append(list, subs)
	masks("with:", keyNames(), func(f *api.Filter) *int { return &f.Keys })
	list = append(list, []condition{{"tapped", func(f *api.Filter) { f.Tap = api.TapTapped }}, {"untapped", func(f *api.Filter) { f.Tap = api.TapUntapped }}})
	for name, field := range map[string]func(f *api.Filter) *api.Bound{
		"power": func(f *api.Filter) *api.Bound { return &f.Power },
		"tough": func(f *api.Filter) *api.Bound { return &f.Tough },
		"value": func(f *api.Filter) *api.Bound { return &f.Value },
	} {
		var bounds []condition
		for text, b := range goodBounds() {
			bounds = append(bounds, condition{name + text, func(f *api.Filter) { *field(f) = b }})
		}
		list = append(list, bounds)
	}
	// Their order was that of a map until here.
	slices.SortFunc(list[len(list)-3:], func(a, b []condition) int { return strings.Compare(key(a), key(b)) })
	for _, g := range list {
		slices.SortFunc(g, func(a, b condition) int { return strings.Compare(a.text, b.text) })
	}
	return list
}

// key returns a text by which the groups of the bounds are in the order power, tough, value.
func key(g []condition) string {
	return g[0].text[:5]
}

// clash reports whether f has a bit in a mask and in its negative.
func clash(f api.Filter) bool {
	return f.Types&f.NotTypes != 0 || f.Colors&f.NotColors != 0
}

// build returns the filter that the conditions say, and their words.
func build(list []condition) (api.Filter, string) {
	var f api.Filter
	var texts []string
	for _, c := range list {
		c.set(&f)
		texts = append(texts, c.text)
	}
	if len(texts) == 0 {
		return f, "any"
	}
	return f, strings.Join(texts, " ")
}

// eachGood calls do with valid filters and their texts: with no condition, all with one, almost all with two, and many with more.
func eachGood(do func(f api.Filter, text string)) {
	all := groups()
	try := func(list []condition) {
		if f, text := build(list); !clash(f) {
			do(f, text)
		}
	}
	try(nil)
	for i, g := range all {
		for _, c := range g {
			try([]condition{c})
			for _, h := range all[i+1:] {
				for _, d := range h {
					try([]condition{c, d})
				}
			}
		}
	}
	random := rand.New(rand.NewSource(13))
	for range 5000 {
		var list []condition
		share := 1 + random.Intn(12)
		for _, g := range all {
			if random.Intn(share) == 0 {
				list = append(list, g[random.Intn(len(g))])
			}
		}
		try(list)
	}
	eachMasks(try, all)
}

// eachMasks calls try with the words of all pairs of masks of types and of masks of colours, some of which clash.
func eachMasks(try func(list []condition), all [][]condition) {
	for _, at := range [][]int{{3, 9, 6}, {15, 20, 5}} {
		first, second, n := at[0], at[1], at[2]
		for bits := range 1 << (2 * n) {
			var list []condition
			for i := range n {
				if bits>>i&1 == 1 {
					list = append(list, all[first+i][0])
				}
			}
			for i := range n {
				if bits>>(n+i)&1 == 1 {
					list = append(list, all[second+i][0])
				}
			}
			try(list)
		}
	}
}

// samples returns valid filters that differ much.
func samples() []api.Filter {
	return []api.Filter{
		{}, {Zone: api.ZStack, Who: api.Opponents, Self: api.OnlyOther, Tap: api.TapUntapped, Sub: "fox"},
		{Who: api.You, Types: api.Creature | api.Charm, NotTypes: api.Land | api.Instant, Colors: api.Ruby, NotColors: api.Amber | api.Emerald, Keys: api.Flying | api.MustAttack},
		{Types: api.AllTypes, NotColors: api.AllColors, Keys: api.AllKeys, Power: api.Bound{Kind: api.BAtMost, N: 0}},
		{Tough: api.Bound{Kind: api.BExactly, N: api.MaxNum}, Value: api.Bound{Kind: api.BAtLeast, N: 1}},
	}
}

// numbers returns numbers at the borders of all fields and of int.
func numbers() []int {
	list := []int{math.MinInt, math.MinInt + 1, math.MaxInt - 1, math.MaxInt}
	for n := -70; n < 140; n++ {
		list = append(list, n)
	}
	for i := 7; i < 63; i++ {
		list = append(list, 1<<i-1, 1<<i, 1<<i+1, 1<<i+2, -1<<i, -1<<i+1)
	}
	for _, n := range []int{999998, 999999, 1000000, 1000001, 1000002} {
		list = append(list, n, -n)
	}
	return list
}

// checkIs compares Is(f) with want, and with whether f has a text.
func checkIs(t *testing.T, f api.Filter, want bool) {
	t.Helper()
	if got := Is(f); got != want {
		t.Errorf("Is(%.80v) = %v", f, got)
	}
	if got := Text(f); (got != "") != want {
		t.Errorf("Text(%.80v) = %.80q", f, got)
	}
}

func TestIsOfNumbers(t *testing.T) { // P13.1
	for _, sample := range samples() {
		for _, n := range numbers() {
			f := sample
			f.Zone = n
			checkIs(t, f, 0 <= n && n <= 5)
			f = sample
			f.Who = n
			checkIs(t, f, 0 <= n && n <= 2)
			f = sample
			f.Self = n
			checkIs(t, f, 0 <= n && n <= 2)
			f = sample
			f.Tap = n
			checkIs(t, f, 0 <= n && n <= 2)
			f = sample
			f.Keys = n
			checkIs(t, f, 0 <= n && n < 1<<17)
		}
	}
}

func TestIsOfMasks(t *testing.T) { // P13.1
	for _, sample := range samples() {
		for _, n := range numbers() {
			f := sample
			f.Types, f.NotTypes = n, 0
			checkIs(t, f, 0 <= n && n <= 63)
			f.Types, f.NotTypes = 0, n
			checkIs(t, f, 0 <= n && n <= 63)
			f = sample
			f.Colors, f.NotColors = n, 0
			checkIs(t, f, 0 <= n && n <= 31)
			f.Colors, f.NotColors = 0, n
			checkIs(t, f, 0 <= n && n <= 31)
		}
	}
	for a := -2; a < 68; a++ {
		for b := -2; b < 68; b++ {
			both := false
			for i := range 6 {
				both = both || a>>i&1 == 1 && b>>i&1 == 1
			}
			checkIs(t, api.Filter{Types: a, NotTypes: b}, 0 <= a && a < 64 && 0 <= b && b < 64 && !both)
			checkIs(t, api.Filter{Colors: a, NotColors: b}, 0 <= a && a < 32 && 0 <= b && b < 32 && !both)
		}
	}
	// The masks of types and of colours have nothing to do with each other, nor with that of keywords.
	checkIs(t, api.Filter{Types: api.AllTypes, NotColors: api.AllColors, Keys: api.AllKeys}, true)
	checkIs(t, api.Filter{NotTypes: api.AllTypes, Colors: api.AllColors, Keys: api.AllKeys}, true)
}

func TestIsOfSubtypes(t *testing.T) { // P13.1
	for _, f := range samples() {
		for _, s := range append(goodSubs(), "") {
			f.Sub = s
			checkIs(t, f, true)
		}
		for _, s := range badSubs() {
			f.Sub = s
			checkIs(t, f, false)
		}
	}
}

func TestIsOfBounds(t *testing.T) { // P13.1
	for _, sample := range samples() {
		for kind := -3; kind < 9; kind++ {
			for _, n := range numbers() {
				b := api.Bound{Kind: kind, N: n}
				want := kind == 0 && n == 0 || 1 <= kind && kind <= 3 && 0 <= n && n <= 1000000
				f := sample
				f.Power = b
				checkIs(t, f, want)
				f = sample
				f.Tough = b
				checkIs(t, f, want)
				f = sample
				f.Value = b
				checkIs(t, f, want)
			}
		}
		for _, kind := range numbers() {
			f := sample
			f.Power = api.Bound{Kind: kind}
			checkIs(t, f, 0 <= kind && kind <= 3)
		}
	}
}

func TestTextAndParse(t *testing.T) { // P13.1, P13.2
	eachGood(func(f api.Filter, text string) {
		if !Is(f) {
			t.Errorf("Is(%v) = false", f)
		}
		if got := Text(f); got != text {
			t.Errorf("Text(%v) = %q, want %q", f, got, text)
		}
		if got, err := Parse(text); got != f || err != api.OK {
			t.Errorf("Parse(%q) = %v, %v, want %v", text, got, err, f)
		}
	})
}

func TestTextsDiffer(t *testing.T) { // P13.3
	filters := map[string]api.Filter{}
	eachGood(func(f api.Filter, _ string) {
		text := Text(f)
		if other, ok := filters[text]; ok && other != f {
			t.Errorf("%q is the text of %v and of %v", text, f, other)
		}
		filters[text] = f
		if back, err := Parse(text); back != f || err != api.OK {
			t.Errorf("Parse(%q) = %v, %v, want %v", text, back, err, f)
		}
	})
}

func TestTextsOfAllKeywords(t *testing.T) { // P13.2, P13.3
	for i := range 17 {
		for _, keys := range []int{1 << i, 1<<i - 1, api.AllKeys &^ (1 << i), 1<<i | api.Flying, 1<<i | api.MustAttack, 0x15555 & (1<<i - 1)} {
			var want []string
			for j, name := range keyNames() {
				if keys>>j&1 == 1 {
					want = append(want, "with:"+name)
				}
			}
			if len(want) == 0 {
				want = []string{"any"}
			}
			f := api.Filter{Keys: keys}
			if got := Text(f); got != strings.Join(want, " ") {
				t.Errorf("Text(%v) = %q", f, got)
			}
			if got, err := Parse(strings.Join(want, " ")); got != f || err != api.OK {
				t.Errorf("Parse(%q) = %v, %v", want, got, err)
			}
		}
	}
}

// pattern returns an expression for the texts that follow the chapter in everything but the range of numbers, the subtypes,
// and words for both a type or colour and its negative.
func pattern() *regexp.Regexp {
	s := "^( any|( in-hand| in-library| in-graveyard| in-exile| on-stack)?( yours| theirs)?( self| other)?"
	for _, list := range [][]string{typeWords(), colorNames()} {
		for _, prefix := range []string{"", "non-"} {
			for _, w := range list {
				s += "( " + prefix + w + ")?"
			}
		}
	}
	s += "( sub:[a-z0-9-]+)?"
	for _, k := range keyNames() {
		s += "( with:" + k + ")?"
	}
	s += "( tapped| untapped)?"
	for _, name := range []string{"power", "tough", "value"} {
		s += "( " + name + "(?:>=|<=|=)(?:0|[1-9][0-9]{0,6}))?"
	}
	return regexp.MustCompile(s + ")$")
}

// isTextOf returns a function that reports whether s is the text of a valid filter.
func isTextOf() func(s string) bool {
	whole := pattern()
	name := regexp.MustCompile("^[a-z][a-z0-9]*(-[a-z0-9]+)*$")
	return func(s string) bool {
		if s == "" || !whole.MatchString(" "+s) {
			return false
		}
		parts := strings.Split(s, " ")
		for _, part := range parts {
			if _, digits, ok := strings.Cut(part, "="); ok && len(digits) == 7 && digits != "1000000" {
				return false
			}
			if sub, ok := strings.CutPrefix(part, "sub:"); ok {
				words := append(typeWords(), "basic", "unique")
				if len(sub) > 32 || !name.MatchString(sub) || slices.Contains(words, sub) {
					return false
				}
			}
			if slices.Contains(parts, "non-"+part) {
				return false
			}
		}
		return true
	}
}

// parseChecker returns a function that compares Parse(s) with the definition of the texts.
func parseChecker(t *testing.T) func(s string) {
	isText := isTextOf()
	return func(s string) {
		t.Helper()
		f, err := Parse(s)
		if isText(s) {
			if err != api.OK || !Is(f) || Text(f) != s {
				t.Errorf("Parse(%.80q) = %v, %v", s, f, err)
			}
		} else if err != api.ErrForm || f != (api.Filter{}) {
			t.Errorf("Parse(%.80q) = %v, %v of no text", s, f, err)
		}
	}
}

func TestParseOfEveryPairOfWords(t *testing.T) { // P13.2
	check := parseChecker(t)
	words := []string{"any", "", "none", "sub:land", "sub:", "with:", "with:none", "power", "non-any", "basic", "on-battlefield"}
	for _, g := range groups() {
		for _, c := range g {
			words = append(words, c.text)
		}
	}
	for _, a := range words {
		check(a)
		for _, b := range words {
			check(a + " " + b)
		}
	}
}

// near returns texts that together have every word.
func near() []string {
	return []string{
		"any", "self", "in-hand yours other creature", "in-library theirs relic non-instant", "in-graveyard self ritual non-relic non-land",
		"in-exile charm land amber", "on-stack instant non-charm cobalt non-jet", "jet ruby emerald non-amber", "non-creature non-ritual non-cobalt non-ruby non-emerald",
		"yours other creature with:flying power>=3", "sub:fox with:reach tapped", "sub:a-b-c9 with:haste with:vigilant with:trample",
		"with:first-strike with:double-strike with:deadly with:lifelink with:menace", "with:defender with:warded with:sturdy with:elusive",
		"with:no-attack with:no-block with:must-attack", "untapped power>=3 tough<=2 value=1000000", "power<=10 tough=0 value>=999999", "power=1 tough>=1000000 value<=1",
		"sub:" + strings.Repeat("a", api.MaxName),
	}
}

// P13.2: every text that differs in one place from that of some filters.
func TestParseNearby(t *testing.T) {
	check := parseChecker(t)
	symbols := append(strings.Split("+ - , : = < > ( ) [ ] a e t A 0 1 9 é \x00 \xff", " "), " ", "\n", "\t", "")
	for _, text := range near() {
		check(strings.ToUpper(text))
		check(strings.ReplaceAll(text, " ", "  "))
		check(strings.ReplaceAll(text, " ", "+"))
		check(strings.ReplaceAll(text, "-", ""))
		check(strings.ReplaceAll(text, "-", " "))
		for i := range len(text) + 1 {
			check(text[:i])
			check(text[i:])
			for _, s := range symbols {
				check(text[:i] + s + text[i:])
				if i < len(text) {
					check(text[:i] + s + text[i+1:])
				}
			}
			if i+1 < len(text) {
				check(text[:i] + text[i+1:i+2] + text[i:i+1] + text[i+2:])
			}
		}
	}
}

// P13.2: every text that differs in one word or two from that of many filters.
func TestParseOfChangedWords(t *testing.T) {
	check := parseChecker(t)
	count := 0
	eachGood(func(_ api.Filter, text string) {
		count++
		if count%7 != 0 {
			return
		}
		words := strings.Fields(text)
		for i, w := range words {
			check(strings.Join(slices.Insert(slices.Clone(words), i, w), " "))
			check(strings.Join(slices.Insert(slices.Clone(words), i, "any"), " "))
			check(strings.Join(slices.Insert(slices.Clone(words), i, ""), " "))
			check(strings.Join(slices.Insert(slices.Clone(words), i, "fox"), " "))
			check(strings.Join(slices.Delete(slices.Clone(words), i, i+1), " "))
			if i > 0 {
				swapped := slices.Clone(words)
				swapped[i-1], swapped[i] = w, words[i-1]
				check(strings.Join(swapped, " "))
			}
		}
		check(text + " " + words[0])
		check(text + " any")
		check(text + " fox")
		check(text + " ")
		check(" " + text)
	})
}

func TestParseRejects(t *testing.T) { // P13.2
	for _, s := range []string{
		"", " ", "  ", "any ", " any", "any any", "Any", "ANY", "all", "none", "anything", "any yours", "yours any", "\x00", "\xff", "any\n", "any\x00",
		"in-battlefield", "on-battlefield", "battlefield", "hand", "in-stack", "on-hand", "in-hand in-library", "in-gone", "yours theirs", "theirs yours", "mine", "anyone",
		"self other", "other self", "other yours", "yours in-hand", "creature creature", "relic creature", "creature+relic", "creature yours", "creature non-creature",
		"non-creature creature", "non-land land", "non-", "non-non-land", "non-basic", "basic", "unique", "permanent", "non-any", "amber creature", "non-amber amber",
		"amber non-amber", "amber amber", "ruby amber", "amber+ruby", "none creature", "non-none", "non-creature+relic", "non-amber non-creature", "colorless",
		"sub:", "sub:land", "sub:basic", "sub:Fox", "sub:fox sub:fox", "sub:fox sub:hero", "sub:fox+hero", "sub: fox", "sub:fox-", "fox", "sub:fox creature", "sub:(fox)",
		"sub:(a b)", "sub:[a", "with:", "with:x", "with:none", "with:flying with:flying", "with:reach with:flying", "with:flying+reach", "flying", "non-flying", "non-with:flying",
		"with: flying", "with:flying sub:fox", "tapped untapped", "untapped tapped", "tapped with:flying", "non-tapped", "tap",
		"power", "power=", "power>3", "power<3", "power>=", "power<=", "power==3", "power=>3", "power=<3", "power=03", "power=00", "power=-1", "power=-0", "power=+1", "power=1000001",
		"power=9999999", "power=99999999999999999999", "power=1.0", "power=1e3", "power=x", "power= 3", "power =3", "power = 3", "power!=3", "power>=3 power<=4", "tough=1 power=1",
		"value=1 tough=1", "value=1 tapped", "toughness=1", "power>=3power<=4", "power=3,tough=3", "(any)", "[any]", "(yours self)", "yours (self)",
		strings.Repeat(" ", 1<<20), strings.Repeat("any ", 1<<18), strings.Repeat("(", 1<<20), "yours " + strings.Repeat("self ", 1<<18), "power=" + strings.Repeat("0", 1<<20),
		"power=" + strings.Repeat("9", 1<<20), "sub:" + strings.Repeat("a", 1<<20), "creature" + strings.Repeat(" creature", api.MaxText),
	} {
		if f, err := Parse(s); f != (api.Filter{}) || err != api.ErrForm {
			t.Errorf("Parse(%.80q) = %v, %v", s, f, err)
		}
	}
}

func TestLongestText(t *testing.T) { // P13.2
	const want = "in-graveyard theirs other creature ritual charm non-instant non-relic non-land amber jet emerald non-cobalt non-ruby sub:ember-fox " +
		"with:flying with:reach with:haste with:vigilant with:trample with:first-strike with:double-strike with:deadly with:lifelink with:menace with:defender " +
		"with:warded with:sturdy with:elusive with:no-attack with:no-block with:must-attack untapped power>=1000000 tough<=0 value=17"
	f := api.Filter{
		Zone: api.ZGraveyard, Who: api.Opponents, Self: api.OnlyOther, Types: api.Creature | api.Ritual | api.Charm, NotTypes: api.Instant | api.Relic | api.Land,
		Colors: api.Amber | api.Jet | api.Emerald, NotColors: api.Cobalt | api.Ruby, Sub: "ember-fox", Keys: api.AllKeys, Tap: api.TapUntapped,
		Power: api.Bound{Kind: api.BAtLeast, N: api.MaxNum}, Tough: api.Bound{Kind: api.BAtMost}, Value: api.Bound{Kind: api.BExactly, N: 17},
	}
	if got := Text(f); got != want {
		t.Errorf("Text(%v) = %q", f, got)
	}
	if got, err := Parse(want); got != f || err != api.OK {
		t.Errorf("Parse(%q) = %v, %v", want, got, err)
	}
}

func TestExamples(t *testing.T) {
	const text = "yours other creature with:flying power>=3"
	f := api.Filter{Who: api.You, Self: api.OnlyOther, Types: api.Creature, Keys: api.Flying, Power: api.Bound{Kind: api.BAtLeast, N: 3}}
	if got, err := Parse(text); got != f || err != api.OK || Text(f) != text {
		t.Error("the example of the chapter fails")
	}
}
