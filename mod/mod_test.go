package mod

import (
	"math"
	"reflect"
	"regexp"
	"slices"
	"strconv"
	"strings"
	"testing"

	"cardgame/api"
	"cardgame/filter"
	"cardgame/probe"
)

// typeWords returns the words of the types in the order of the bits.
func typeWords() []string {
	return strings.Fields("creature instant ritual relic charm land")
}

// colorNames returns the names of the colours in the order of the bits.
func colorNames() []string {
	return strings.Fields("amber cobalt jet ruby emerald")
}

// keyNames returns the names of the keywords in the order of the bits.
func keyNames() []string {
	return strings.Fields("flying reach haste vigilant trample first-strike double-strike deadly lifelink menace defender warded sturdy elusive no-attack no-block must-attack")
}

// joined returns the words of the bits of mask, joined by +.
func joined(words []string, mask int) string {
	var parts []string
	for i, w := range words {
		if mask>>i&1 == 1 {
			parts = append(parts, w)
		}
	}
	return strings.Join(parts, "+")
}

// goodSubs returns subtypes.
func goodSubs() []string {
	return []string{"fox", "elf", "a", "z9", "a-b-0", "ox-1", "none", "any", "amber", "control", "blank", "pt", "pt-switch", "sub", "lands", strings.Repeat("a", api.MaxName)}
}

// badSubs returns texts that are no subtypes, the empty one excepted.
func badSubs() []string {
	return []string{
		" ", "-", "A", "Fox", "9a", "a-", "-a", "a--b", "a b", " a", "a ", "a+b", "a,b", "a, b", "a/b", "=a", "+=a", "(a)", "(a", "a)", "[a]", "é", "a\n", "a\x00",
		"\xff", "basic", "unique", "creature", "instant", "ritual", "relic", "charm", "land", strings.Repeat("a", api.MaxName+1), strings.Repeat("a", api.MaxText),
	}
}

// goodFilters returns valid filters by their texts.
func goodFilters() map[string]api.Filter {
	return map[string]api.Filter{
		"any":                  {},
		"in-hand":              {Zone: api.ZHand},
		"on-stack":             {Zone: api.ZStack},
		"yours":                {Who: api.You},
		"theirs":               {Who: api.Opponents},
		"self":                 {Self: api.OnlySelf},
		"yours land":           {Who: api.You, Types: api.Land},
		"in-graveyard theirs":  {Zone: api.ZGraveyard, Who: api.Opponents},
		"instant ritual":       {Types: api.Instant | api.Ritual},
		"non-land non-amber":   {NotTypes: api.Land, NotColors: api.Amber},
		"sub:count":            {Sub: "count"},
		"with:flying tapped":   {Keys: api.Flying, Tap: api.TapTapped},
		"power>=3":             {Power: api.Bound{Kind: api.BAtLeast, N: 3}},
		"tough<=0 value=12":    {Tough: api.Bound{Kind: api.BAtMost}, Value: api.Bound{Kind: api.BExactly, N: 12}},
		"other value<=1000000": {Self: api.OnlyOther, Value: api.Bound{Kind: api.BAtMost, N: api.MaxNum}},
	}
}

// badFilters returns filters that are not valid.
func badFilters() []api.Filter {
	return []api.Filter{
		{Zone: api.ZGone}, {Zone: -1}, {Who: 3}, {Self: -1}, {Tap: 3}, {Types: 64}, {Types: api.Land, NotTypes: api.Land}, {Colors: -1},
		{NotColors: 32}, {Sub: "land"}, {Sub: "Fox"}, {Sub: "a)"}, {Keys: api.AllKeys + 1}, {Power: api.Bound{N: 1}}, {Tough: api.Bound{Kind: 4}},
		{Value: api.Bound{Kind: api.BExactly, N: -1}}, {Value: api.Bound{Kind: api.BExactly, N: api.MaxNum + 1}},
	}
}

// eachGood calls do with all valid modifications and their texts, but of the subtypes and filters only with those above,
// and with sums of power and toughness only if one of them is at most 3 or at least 97.
func eachGood(do func(m api.Mod, text string)) {
	do(api.Mod{Kind: api.MControl}, "control")
	for n := 1; n <= api.AllTypes; n++ {
		if n&6 == 0 {
			do(api.Mod{Kind: api.MSetTypes, N: n}, "types="+joined(typeWords(), n))
			do(api.Mod{Kind: api.MAddTypes, N: n}, "types+="+joined(typeWords(), n))
		}
	}
	for _, s := range goodSubs() {
		do(api.Mod{Kind: api.MSetSub, Sub: s}, "sub="+s)
		do(api.Mod{Kind: api.MAddSub, Sub: s}, "sub+="+s)
	}
	do(api.Mod{Kind: api.MSetColors}, "colors=none")
	for n := 1; n <= api.AllColors; n++ {
		do(api.Mod{Kind: api.MSetColors, N: n}, "colors="+joined(colorNames(), n))
		do(api.Mod{Kind: api.MAddColors, N: n}, "colors+="+joined(colorNames(), n))
	}
	for n := 1; n <= api.AllKeys; n++ {
		do(api.Mod{Kind: api.MAddKeys, N: n}, "keys+="+joined(keyNames(), n))
		do(api.Mod{Kind: api.MDropKeys, N: n}, "keys-="+joined(keyNames(), n))
	}
	do(api.Mod{Kind: api.MDropAll}, "blank")
	for text, f := range goodFilters() {
		do(api.Mod{Kind: api.MCountPT, Filter: f}, "pt=count("+text+")")
	}
	for n := -99; n <= 99; n++ {
		for m := -99; m <= 99; m++ {
			text := strconv.Itoa(n) + "/" + strconv.Itoa(m)
			if n >= 0 && m >= 0 {
				do(api.Mod{Kind: api.MSetPT, N: n, M: m}, "pt="+text)
			}
			do(api.Mod{Kind: api.MAddPT, N: n, M: m}, "pt+="+text)
		}
	}
	do(api.Mod{Kind: api.MSwitchPT}, "pt-switch")
}

// samples returns valid modifications of every kind, with their texts.
func samples() map[string]api.Mod {
	return map[string]api.Mod{
		"control":                {Kind: api.MControl},
		"types=creature":         {Kind: api.MSetTypes, N: api.Creature},
		"types=relic+charm+land": {Kind: api.MSetTypes, N: api.Relic | api.Charm | api.Land},
		"types+=land":            {Kind: api.MAddTypes, N: api.Land},
		"sub=elf":                {Kind: api.MSetSub, Sub: "elf"},
		"sub+=ox-1":              {Kind: api.MAddSub, Sub: "ox-1"},
		"colors=none":            {Kind: api.MSetColors},
		"colors=jet+emerald":     {Kind: api.MSetColors, N: api.Jet | api.Emerald},
		"colors+=amber+ruby":     {Kind: api.MAddColors, N: api.Amber | api.Ruby},
		"keys+=flying+haste":     {Kind: api.MAddKeys, N: api.Flying | api.Haste},
		"keys-=must-attack":      {Kind: api.MDropKeys, N: api.MustAttack},
		"blank":                  {Kind: api.MDropAll},
		"pt=count(any)":          {Kind: api.MCountPT},
		"pt=count(yours land)":   {Kind: api.MCountPT, Filter: api.Filter{Who: api.You, Types: api.Land}},
		"pt=0/0":                 {Kind: api.MSetPT},
		"pt=0/99":                {Kind: api.MSetPT, M: 99},
		"pt=10/1":                {Kind: api.MSetPT, N: 10, M: 1},
		"pt+=0/0":                {Kind: api.MAddPT},
		"pt+=2/-1":               {Kind: api.MAddPT, N: 2, M: -1},
		"pt+=-99/99":             {Kind: api.MAddPT, N: -99, M: 99},
		"pt-switch":              {Kind: api.MSwitchPT},
	}
}

// valid is the definition of valid modifications, written out field by field.
func valid(m api.Mod) bool {
	n := map[int]func() bool{
		api.MSetTypes:  func() bool { return 1 <= m.N && m.N <= 63 && m.N&2 == 0 && m.N&4 == 0 },
		api.MAddTypes:  func() bool { return 1 <= m.N && m.N <= 63 && m.N&2 == 0 && m.N&4 == 0 },
		api.MSetColors: func() bool { return 0 <= m.N && m.N <= 31 },
		api.MAddColors: func() bool { return 1 <= m.N && m.N <= 31 },
		api.MAddKeys:   func() bool { return 1 <= m.N && m.N <= 131071 },
		api.MDropKeys:  func() bool { return 1 <= m.N && m.N <= 131071 },
		api.MSetPT:     func() bool { return 0 <= m.N && m.N <= 99 },
		api.MAddPT:     func() bool { return -99 <= m.N && m.N <= 99 },
	}[m.Kind]
	if n == nil && m.N != 0 || n != nil && !n() {
		return false
	}
	switch m.Kind {
	case api.MSetPT:
		if m.M < 0 || m.M > 99 {
			return false
		}
	case api.MAddPT:
		if m.M < -99 || m.M > 99 {
			return false
		}
	default:
		if m.M != 0 {
			return false
		}
	}
	if usesSub := m.Kind == 4 || m.Kind == 5; usesSub != slices.Contains(goodSubs(), m.Sub) || !usesSub && m.Sub != "" {
		return false
	}
	if m.Kind != 11 && m.Filter != (api.Filter{}) {
		return false
	}
	return 1 <= m.Kind && m.Kind <= 14 && !slices.Contains(badFilters(), m.Filter)
}

// shortened returns m with a subtype that is short enough for a message.
func shortened(m api.Mod) api.Mod {
	m.Sub = m.Sub[:min(len(m.Sub), 40)]
	return m
}

// checkIs compares Is(m) with the definition, and with whether m has a text.
func checkIs(t *testing.T, m api.Mod) {
	t.Helper()
	want := valid(m)
	if got := Is(m); got != want {
		t.Errorf("Is(%v) = %v", shortened(m), got)
	}
	if got := Text(m); (got != "") != want {
		t.Errorf("Text(%v) = %.80q", shortened(m), got)
	}
}

// P15.1: every field of every kind, used or not, at and beyond its borders.
func TestIsOfFields(t *testing.T) {
	list := []api.Mod{{}, {Kind: -1}, {Kind: 15}, {Kind: 16}}
	for _, m := range samples() {
		list = append(list, m)
	}
	for _, good := range list {
		checkIs(t, good)
		for _, n := range probe.Numbers() {
			m := good
			m.Kind = n
			checkIs(t, m)
			m = good
			m.N = n
			checkIs(t, m)
			m = good
			m.M = n
			checkIs(t, m)
		}
		for _, s := range slices.Concat(goodSubs(), badSubs(), []string{""}) {
			m := good
			m.Sub = s
			checkIs(t, m)
		}
		for _, f := range goodFilters() {
			m := good
			m.Filter = f
			checkIs(t, m)
		}
		for _, f := range badFilters() {
			m := good
			m.Filter = f
			checkIs(t, m)
		}
	}
}

func TestIsOfMasks(t *testing.T) { // P15.1
	for n := -2; n <= 200; n++ {
		for kind := range 16 {
			checkIs(t, api.Mod{Kind: kind, N: n})
		}
	}
	for n := -2; n <= 1<<18; n++ {
		for _, kind := range []int{api.MAddKeys, api.MDropKeys} {
			if m := (api.Mod{Kind: kind, N: n}); Is(m) != (1 <= n && n <= 1<<17-1) {
				t.Errorf("Is(%v) = %v", m, Is(m))
			}
		}
	}
}

// P15.1: texts of all modifications. P15.4: Parse inverts them, so they differ.
func TestTextAndParse(t *testing.T) {
	mods := map[string]api.Mod{}
	eachGood(func(m api.Mod, text string) {
		if !Is(m) {
			t.Errorf("Is(%v) = false", m)
		}
		if got := Text(m); got != text {
			t.Errorf("Text(%v) = %q, want %q", m, got, text)
		}
		if got, err := Parse(text); got != m || err != api.OK {
			t.Errorf("Parse(%q) = %v, %v, want %v", text, got, err, m)
		}
		if other, ok := mods[text]; ok {
			t.Errorf("%q is the text of %v and of %v", text, m, other)
		}
		mods[text] = m
	})
	for text, m := range samples() {
		if mods[text] != m {
			t.Errorf("%v does not have the text %q", m, text)
		}
	}
}

// words returns an expression of a list of distinct words in their order, joined by +, of which there is at least one.
func words(list []string) string {
	var all []string
	for i, w := range list {
		expression := w
		for _, later := range list[i+1:] {
			expression += `(\+` + later + `)?`
		}
		all = append(all, expression)
	}
	return "(" + strings.Join(all, "|") + ")"
}

// isText returns a function that reports whether s is the text of a modification by its definition.
func isText() func(s string) bool {
	simple := regexp.MustCompile(`^(control|blank|pt-switch` +
		`|types\+?=` + words([]string{"creature", "relic", "charm", "land"}) +
		`|colors=none|colors\+?=` + words(colorNames()) +
		`|keys[+-]=` + words(keyNames()) +
		`|pt=(0|[1-9][0-9]?)/(0|[1-9][0-9]?)|pt\+=(0|-?[1-9][0-9]?)/(0|-?[1-9][0-9]?))$`)
	sub := regexp.MustCompile(`^sub\+?=([a-z][a-z0-9]*(?:-[a-z0-9]+)*)$`)
	count := regexp.MustCompile(`(?s)^pt=count\((.*)\)$`)
	reserved := append(typeWords(), "basic", "unique")
	return func(s string) bool {
		if parts := sub.FindStringSubmatch(s); parts != nil {
			return len(parts[1]) <= 32 && !slices.Contains(reserved, parts[1])
		}
		if parts := count.FindStringSubmatch(s); parts != nil {
			_, err := filter.Parse(parts[1])
			return err == api.OK
		}
		return simple.MatchString(s)
	}
}

// parseChecker returns a function that compares Parse(s) with the definition of the texts.
func parseChecker(t *testing.T) func(s string) {
	isText := isText()
	return func(s string) {
		t.Helper()
		m, err := Parse(s)
		if isText(s) {
			if err != api.OK || !Is(m) || Text(m) != s {
				t.Errorf("Parse(%.80q) = %v, %v", s, m, err)
			}
		} else if err != api.ErrForm || m != (api.Mod{}) {
			t.Errorf("Parse(%.80q) = %v, %v of no text", s, m, err)
		}
	}
}

// P15.1: every text of up to four pieces of texts, and longer ones behind some beginnings.
func TestParseOfPieces(t *testing.T) {
	check := parseChecker(t)
	probe.Extend(check, "", 4, []string{"control", "blank", "types", "sub", "colors", "keys", "pt", "=", "+", "-", "switch", "count", "none", "land", "haste", "jet", "0", "/"})
	for _, start := range []string{"types=", "types+="} {
		probe.Extend(check, start, 5, []string{"creature", "relic", "charm", "land", "instant", "+", "none"})
	}
	for _, start := range []string{"colors=", "colors+=", "keys=", "keys+=", "keys-="} {
		probe.Extend(check, start, 4, []string{"amber", "jet", "ruby", "none", "+", "flying", "haste", "must-attack"})
	}
	for _, start := range []string{"pt", "pt=", "pt+=", "pt-="} {
		probe.Extend(check, start, 6, []string{"0", "1", "9", "-", "+", "/"})
	}
	probe.Extend(check, "pt=count", 4, []string{"(", ")", "any", "yours", "land", " ", "1", "/", "count"})
	probe.Extend(check, "pt=", 3, []string{"count(", ")", "any", "2*", "x", "power", "1", "/"})
	probe.Extend(check, "sub", 5, []string{"=", "+", "-", "a", "land", "0", " "})
}

func TestParseNearby(t *testing.T) { // P15.1
	check := parseChecker(t)
	for text := range samples() {
		probe.Neighbours(check, text)
	}
	for text := range goodFilters() {
		probe.Neighbours(check, "pt=count("+text+")")
	}
	for _, s := range slices.Concat(goodSubs(), badSubs()) {
		check("sub=" + s)
		check("sub+=" + s)
		check("sub-=" + s)
	}
	probe.Neighbours(check, "types+="+joined(typeWords(), api.Permanent))
	probe.Neighbours(check, "colors="+joined(colorNames(), api.AllColors))
	probe.Neighbours(check, "keys+="+joined(keyNames(), api.AllKeys))
}

func TestParseNumbers(t *testing.T) { // P15.1
	check := parseChecker(t)
	for _, n := range probe.Numbers() {
		s := strconv.Itoa(n)
		for _, start := range []string{"pt=", "pt+=", "pt-="} {
			check(start + s)
			check(start + s + "/0")
			check(start + "0/" + s)
			check(start + s + "/" + s)
			check(start + "0" + s + "/1")
			check(start + "1/+" + s)
		}
	}
}

func TestParseRejects(t *testing.T) { // P15.1
	for _, s := range []string{
		"", " ", "\n", "=", "+=", "-=", "+", "-", "/", ",", ", ", "()", "none", "any", "Control", "control ", " control", "control\n", "control=1", "controls", "control, ",
		"control,", "control, blank", "uncontrol", "types", "types=", "types+=", "types+", "types-=land", "types=none", "types=any", "types=instant", "types=ritual",
		"types=creature+instant", "types=instant+ritual", "types=creature+instant+ritual+relic+charm+land", "types+=instant", "types+=ritual+land", "types=basic",
		"types=unique+land", "types=elf", "types=Land", "types=land ", "types= land", "types =land", "types=land+creature", "types=land+land", "types=creature relic",
		"types=creature,relic", "types=+land", "types=land+", "types=creature++land", "types==land", "type=land", "types=1", "sub", "sub=", "sub+=", "sub-=elf", "subs=elf",
		"sub=Elf", "sub=land", "sub=basic", "sub+=unique", "sub+=creature", "sub=elf+ape", "sub=elf ape", "sub=elf ", "sub= elf", "sub:elf", "sub=1", "sub=elf-", "sub==elf",
		"colors", "colors=", "colors+=", "colors+=none", "colors-=jet", "color=jet", "colors=white", "colors=ruby+jet", "colors=jet+jet", "colors=jet+none", "colors=none+jet",
		"colors=all", "colors=Jet", "colors=jet ", "colors=J", "colors=4", "keys", "keys=", "keys=flying", "keys=none", "keys+=", "keys-=", "keys+=none", "keys-=none",
		"key+=flying", "keys+=Flying", "keys+=reach+flying", "keys+=flying+flying", "keys+=fly", "keys+=with:flying", "keys+=first", "keys+=flying ", "keys+=1", "keys-=all",
		"Blank", "blank ", "blank()", "blanks", "blank=1", "pt", "pt=", "pt+=", "pt-=", "pt-=1/1", "pt=/", "pt=1", "pt=1/", "pt=/1", "pt=1/2/3", "pt=1,2", "pt=1 / 2", "pt=1/2 ",
		"pt= 1/2", "pt=-1/2", "pt=1/-2", "pt=-0/1", "pt=1/-0", "pt=100/1", "pt=1/100", "pt=01/1", "pt=1/01", "pt=00/0", "pt=+1/1", "pt=x/1", "pt=power/1", "pt=1/count(any)",
		"pt=1.0/1", "pt=18446744073709551617/1", "pt=1/18446744073709551617", "pt+=1", "pt+=1/", "pt+=/1", "pt+=+1/1", "pt+=1/+1", "pt+=-0/0", "pt+=0/-0", "pt+=100/0",
		"pt+=0/-100", "pt+=-100/0", "pt+=01/1", "pt+=-01/1", "pt+=--1/1", "pt+=1/1/1", "pt+=count(any)", "pt++=1/1", "pt=count", "pt=count(", "pt=count()", "pt=count)",
		"pt=count(any", "pt=countany)", "pt=count(any))", "pt=count((any))", "pt=count[any]", "pt=count (any)", "pt=count( any)", "pt=count(any )", "pt=count(any) ",
		"pt=count(Any)", "pt=count(any any)", "pt=count(fox)", "pt=count(land yours)", "pt=2*count(any)", "pt=1*count(any)", "pt=count(any)/1", "pt=count(any)/count(any)",
		"pt=Count(any)", "PT=1/1", "power=1", "tough=1", "pt-switch ", " pt-switch", "pt-switch()", "pt-switched", "pt=switch", "pt-", "ptswitch", "switch", "pt switch",
		"\xff", "blank\x00", "sub=\xff", "types=\xff", "pt=count(\xff)",
		strings.Repeat("a", 1<<20), "sub=" + strings.Repeat("a", 1<<20), "pt=" + strings.Repeat("9", 1<<20) + "/1", "pt=1/" + strings.Repeat("0", 1<<20),
		"pt=" + strings.Repeat("/", 1<<20), "pt=" + strings.Repeat("(", 1<<20), "pt=count(" + strings.Repeat("any ", 1<<18) + ")", "pt=count(any" + strings.Repeat(")", 1<<20),
		"types=" + strings.Repeat("land+", 1<<18) + "land", "keys+=" + strings.Repeat("haste+", 1<<18) + "haste", "colors=" + strings.Repeat("jet+", 1<<18) + "jet",
		strings.Repeat("control", 1<<18), strings.Repeat("control, ", 1<<18), strings.Repeat("pt=count(", 1<<18),
	} {
		if m, err := Parse(s); m != (api.Mod{}) || err != api.ErrForm {
			t.Errorf("Parse(%.80q) = %v, %v", s, m, err)
		}
	}
}

// sampleList returns the texts of samples in their order, and the modifications in the same order.
func sampleList() ([]string, []api.Mod) {
	var texts []string
	var mods []api.Mod
	all := samples()
	for text := range all {
		texts = append(texts, text)
	}
	slices.Sort(texts)
	for _, text := range texts {
		mods = append(mods, all[text])
	}
	return texts, mods
}

// checkList checks ListText and ParseList of the valid list l, whose elements have the given texts.
func checkList(t *testing.T, l []api.Mod, texts []string) {
	t.Helper()
	want := strings.Join(texts, ", ")
	before := slices.Clone(l)
	if got := ListText(l); got != want || !slices.Equal(l, before) {
		t.Errorf("ListText(%v) = %q, want %q", before, got, want)
	}
	if got, err := ParseList(want); !slices.Equal(got, l) || err != api.OK {
		t.Errorf("ParseList(%q) = %v, %v, want %v", want, got, err, l)
	}
}

// P15.2: all lists of one or two samples, and longer ones of every length.
func TestLists(t *testing.T) {
	texts, mods := sampleList()
	for i := range mods {
		checkList(t, mods[i:i+1], texts[i:i+1])
		for j := range mods {
			checkList(t, []api.Mod{mods[i], mods[j]}, []string{texts[i], texts[j]})
		}
		for n := range 7 {
			if n > 0 && i+n <= len(mods) {
				checkList(t, mods[i:i+n], texts[i:i+n])
			}
		}
		for _, n := range []int{3, 4, 5, 6} {
			checkList(t, slices.Repeat(mods[i:i+1], n), slices.Repeat(texts[i:i+1], n))
		}
	}
}

func TestListsOfOtherLengths(t *testing.T) { // P15.2
	texts, mods := sampleList()
	for _, l := range [][]api.Mod{nil, {}, mods[:7], mods[:8], mods, slices.Repeat(mods[:1], 7), slices.Repeat(mods[:1], 1<<16)} {
		if got := ListText(l); got != "" {
			t.Errorf("ListText of %d elements is %q", len(l), got)
		}
	}
	for _, l := range [][]string{nil, texts[:7], texts[:8], texts, slices.Repeat(texts[:1], 7), slices.Repeat(texts[:1], 1<<16)} {
		if got, err := ParseList(strings.Join(l, ", ")); len(got) != 0 || err != api.ErrForm {
			t.Errorf("ParseList of %d elements is %v, %v", len(l), got, err)
		}
	}
}

// P15.2: a list with an invalid modification has no text, wherever that is.
func TestListTextOfInvalid(t *testing.T) {
	_, mods := sampleList()
	for _, bad := range []api.Mod{{}, {Kind: 15}, {Kind: -1}, {Kind: api.MControl, N: 1}, {Kind: api.MSetPT, M: 100}, {Kind: api.MAddTypes}, {Kind: api.MSetSub}} {
		for n := range 6 {
			for at := range n + 1 {
				if got := ListText(slices.Insert(slices.Clone(mods[:n]), at, bad)); got != "" {
					t.Errorf("the text of a list with %v at %d of %d is %q", bad, at, n+1, got)
				}
			}
		}
	}
}

// listChecker returns a function that compares ParseList(s) with the definition of the texts. (No text contains a comma
// followed by a blank.)
func listChecker(t *testing.T) func(s string) {
	isText := isText()
	return func(s string) {
		t.Helper()
		parts := strings.Split(s, ", ")
		want := len(parts) <= 6
		for _, part := range parts {
			want = want && isText(part)
		}
		l, err := ParseList(s)
		if want {
			if err != api.OK || len(l) != len(parts) || ListText(l) != s {
				t.Errorf("ParseList(%.80q) = %v, %v", s, l, err)
			}
		} else if err != api.ErrForm || len(l) != 0 {
			t.Errorf("ParseList(%.80q) = %v, %v of no text", s, l, err)
		}
	}
}

func TestParseListOfPieces(t *testing.T) { // P15.2
	check := listChecker(t)
	probe.Extend(check, "", 6, []string{"control", "pt=1/1", "blank", ", ", ",", " ", "pt=count(any)"})
	probe.Extend(check, "blank, blank, blank, blank", 5, []string{"blank", ", ", ",", " ", "sub=a"})
}

func TestParseListNearby(t *testing.T) { // P15.2
	check := listChecker(t)
	texts, _ := sampleList()
	for _, text := range texts {
		probe.Neighbours(check, text)
		probe.Neighbours(check, "pt+=1/-1, "+text)
		probe.Neighbours(check, text+", pt=count(yours land), sub=a")
	}
	probe.Neighbours(check, strings.Join(texts[:6], ", "))
	probe.Neighbours(check, strings.Join(texts[:7], ", "))
}

func TestParseListRejects(t *testing.T) { // P15.2
	for _, s := range []string{
		"", " ", ",", ", ", "control,", "control, ", ", control", ",control", "control,blank", "control , blank", "control,  blank", "control, , blank", "control; blank",
		"control blank", "control\nblank", "control+blank", "(control, blank)", "control, (blank)", "[control], blank", "pt=count(any, blank)", "pt=count(any, blank", "pt=(1/1, blank",
		"control, types=instant", "types=instant, control", "control, pt=1/1 ", " control, pt=1/1", "control, Blank", strings.Repeat(", ", 1<<20), strings.Repeat("blank, ", 1<<18),
		strings.Repeat("blank, ", 1<<18) + "blank", strings.Repeat("(", 1<<20) + ", blank", "blank, " + strings.Repeat("(", 1<<20), strings.Repeat("blank,", 1<<18),
	} {
		if l, err := ParseList(s); len(l) != 0 || err != api.ErrForm {
			t.Errorf("ParseList(%.80q) = %v, %v", s, l, err)
		}
	}
}

func TestParseListSharesNothing(t *testing.T) { // P15.2
	first, _ := ParseList("control, sub=fox")
	first[0] = api.Mod{}
	if second, err := ParseList("control, sub=fox"); err != api.OK || second[0].Kind != api.MControl {
		t.Error("two results share memory")
	}
}

func TestStage(t *testing.T) { // P15.1
	stages := map[int]int{1: 1, 2: 2, 3: 2, 4: 2, 5: 2, 6: 3, 7: 3, 8: 4, 9: 4, 10: 4, 11: 5, 12: 6, 13: 7, 14: 8}
	for _, kind := range probe.Numbers() {
		if got := Stage(kind); got != stages[kind] {
			t.Errorf("Stage(%d) = %d, want %d", kind, got, stages[kind])
		}
	}
}

// abilities returns abilities in all of whose slices there is something.
func abilities() []api.Ability {
	return []api.Ability{
		{Kind: api.AbStatic, Mods: []api.Mod{{Kind: api.MControl}, {Kind: api.MSetPT, N: 1, M: 1}}},
		{Kind: api.AbSpell, Specs: []api.Spec{{Player: true}, {Object: true}}, Effects: []api.Effect{{Op: api.OpDraw}, {Op: api.OpMod, Mods: []api.Mod{{Kind: api.MSwitchPT}}}}},
	}
}

// someTraits returns characteristics, new ones at each call.
func someTraits() []api.Traits {
	return []api.Traits{
		{},
		{
			Name: "ember-fox", Cost: api.Cost{Generic: 1, X: 1, Color: [5]int{0, 0, 0, 1}}, Colors: api.Ruby,
			Line: api.Line{Super: api.Unique, Types: api.Creature, Subs: []string{"elf", "fox"}}, Power: 2, Tough: 5, Keys: api.Flying | api.Haste | api.MustAttack,
			Abilities: abilities(), Control: 1,
		},
		{Name: "a", Colors: api.AllColors, Line: api.Line{Super: api.AllSupers, Types: api.Relic | api.Land, Subs: []string{"ape", "b", "elf", "ox-1"}}, Power: api.MaxNum, Tough: -api.MaxNum, Keys: api.AllKeys, Control: 3},
		{Name: "b", Line: api.Line{Types: api.Instant}, Power: -api.MaxNum, Tough: api.MaxNum - 50, Abilities: abilities()[1:], Control: 2},
		{Name: "Not A Name", Colors: -1, Line: api.Line{Super: -1, Types: 64, Subs: []string{"z", "a"}}, Power: math.MaxInt, Tough: math.MinInt, Keys: 1 << 40, Control: -1},
	}
}

// clamped returns n, or the nearest number of a game.
func clamped(n int) int {
	if n > 1000000 {
		return 1000000
	}
	return max(n, -1000000)
}

// withSub returns the list of subtypes to which sub is added.
func withSub(subs []string, sub string) []string {
	if len(subs) > 3 || slices.Contains(subs, sub) {
		return subs
	}
	for i, s := range subs {
		if s > sub {
			return slices.Concat(subs[:i], []string{sub}, subs[i:])
		}
	}
	return slices.Concat(subs, []string{sub})
}

// modified is the definition of Apply for a valid modification.
func modified(t api.Traits, m api.Mod, you, count int) api.Traits {
	changes := map[int]func(){
		1: func() { t.Control = you },
		2: func() { t.Line.Types = m.N },
		3: func() { t.Line.Types = t.Line.Types | m.N },
		4: func() { t.Line.Subs = []string{m.Sub} },
		5: func() { t.Line.Subs = withSub(t.Line.Subs, m.Sub) },
		6: func() { t.Colors = m.N },
		7: func() { t.Colors = t.Colors | m.N },
		8: func() { t.Keys = t.Keys | m.N },
		9: func() { t.Keys = t.Keys & ^m.N },
		10: func() {
			t.Keys = 0
			t.Abilities = nil
		},
		11: func() { t.Power, t.Tough = clamped(count), clamped(count) },
		12: func() { t.Power, t.Tough = m.N, m.M },
		13: func() { t.Power, t.Tough = clamped(clamped(t.Power)+m.N), clamped(clamped(t.Tough)+m.M) },
		14: func() {
			power := t.Power
			t.Power = t.Tough
			t.Tough = power
		},
	}
	changes[m.Kind]()
	return t
}

// same compares characteristics, for which it does not matter whether a slice without elements is nil.
func same(a, b api.Traits) bool {
	if len(a.Line.Subs) == 0 && len(b.Line.Subs) == 0 {
		a.Line.Subs, b.Line.Subs = nil, nil
	}
	if len(a.Abilities) == 0 && len(b.Abilities) == 0 {
		a.Abilities, b.Abilities = nil, nil
	}
	return reflect.DeepEqual(a, b)
}

// P15.3: every kind, on several characteristics, players and counts; the argument stays as it is.
func TestApply(t *testing.T) {
	_, mods := sampleList()
	for _, s := range goodSubs() {
		mods = append(mods, api.Mod{Kind: api.MAddSub, Sub: s})
	}
	for i := range 17 {
		mods = append(mods, api.Mod{Kind: api.MAddKeys, N: 1 << i}, api.Mod{Kind: api.MDropKeys, N: 1 << i}, api.Mod{Kind: api.MDropKeys, N: api.AllKeys &^ (1 << i)})
	}
	for n := 1; n <= api.AllColors; n++ {
		mods = append(mods, api.Mod{Kind: api.MAddColors, N: n}, api.Mod{Kind: api.MSetColors, N: n})
	}
	for i, x := range someTraits() {
		for _, m := range mods {
			for _, n := range []int{0, 1, 2, 3, -1, 2048, 1000000, 1000001, -1000001, math.MaxInt, math.MinInt} {
				want := modified(someTraits()[i], m, n, n/2)
				if got := Apply(x, m, n, n/2); !same(got, want) {
					t.Errorf("Apply(%v, %v, %d, %d) = %v, want %v", x, m, n, n/2, got, want)
				}
				if !reflect.DeepEqual(x, someTraits()[i]) {
					t.Fatalf("Apply of %v changes its argument", m)
				}
			}
		}
	}
}

func TestApplySums(t *testing.T) { // P15.3
	for _, power := range probe.Numbers() {
		for _, n := range []int{-99, -1, 0, 1, 99} {
			got := Apply(api.Traits{Power: power, Tough: -1}, api.Mod{Kind: api.MAddPT, N: n, M: -n}, 0, 0)
			if got.Power != clamped(clamped(power)+n) || got.Tough != -1-n {
				t.Errorf("%d/-1 with %d/%d is %d/%d", power, n, -n, got.Power, got.Tough)
			}
		}
		if got := Apply(api.Traits{Power: 1, Tough: 2}, api.Mod{Kind: api.MCountPT}, 0, power); got.Power != clamped(power) || got.Tough != clamped(power) {
			t.Errorf("the count %d becomes %d/%d", power, got.Power, got.Tough)
		}
	}
}

func TestApplyOfInvalid(t *testing.T) { // P15.3
	list := []api.Mod{
		{}, {Kind: -1}, {Kind: 15}, {Kind: api.MControl, N: 1}, {Kind: api.MSetTypes}, {Kind: api.MSetTypes, N: api.Instant}, {Kind: api.MAddTypes, N: api.Land | api.Ritual},
		{Kind: api.MSetSub}, {Kind: api.MSetSub, Sub: "land"}, {Kind: api.MAddSub, Sub: "Fox"}, {Kind: api.MAddSub, Sub: "cat", N: 1}, {Kind: api.MSetColors, N: 32},
		{Kind: api.MAddColors}, {Kind: api.MAddColors, N: -1}, {Kind: api.MAddKeys, N: 1 << 17}, {Kind: api.MDropKeys, N: -1}, {Kind: api.MDropAll, M: 1},
		{Kind: api.MCountPT, Filter: api.Filter{Zone: 6}}, {Kind: api.MSetPT, N: 100}, {Kind: api.MSetPT, M: -1}, {Kind: api.MAddPT, N: -100}, {Kind: api.MAddPT, M: 100},
		{Kind: api.MSwitchPT, Sub: "cat"}, {Kind: api.MSwitchPT, Filter: api.Filter{Who: api.You}},
	}
	for i, x := range someTraits() {
		for _, m := range list {
			if got := Apply(x, m, 2, 3); !same(got, someTraits()[i]) || !same(x, someTraits()[i]) {
				t.Errorf("Apply(%v, %v) = %v", x, m, got)
			}
		}
	}
}

// wipe changes everything that the slices of x contain.
func wipe(x api.Traits) {
	for i := range x.Line.Subs {
		x.Line.Subs[i] = "wiped"
	}
	for i := range x.Abilities {
		a := &x.Abilities[i]
		clear(a.Mods)
		clear(a.Specs)
		for j := range a.Effects {
			clear(a.Effects[j].Mods)
		}
		clear(a.Effects)
	}
	clear(x.Abilities)
}

// P15.3: neither the result of a valid modification nor that of an invalid one shares memory with the argument.
func TestApplySharesNothing(t *testing.T) {
	_, mods := sampleList()
	for _, m := range append(mods, api.Mod{}, api.Mod{Kind: api.MAddSub, Sub: "elf"}, api.Mod{Kind: api.MAddSub, Sub: "cat"}) {
		for i, x := range someTraits() {
			want := Apply(someTraits()[i], m, 1, 1)
			got := Apply(x, m, 1, 1)
			wipe(x)
			if !same(got, want) {
				t.Errorf("the result of %v shares memory with its argument", m)
			}
			x = someTraits()[i]
			wipe(Apply(x, m, 1, 1))
			if !same(x, someTraits()[i]) {
				t.Errorf("the argument of %v shares memory with the result", m)
			}
		}
	}
}

func TestSwitchTwice(t *testing.T) { // P15.4
	m := api.Mod{Kind: api.MSwitchPT}
	for _, x := range someTraits() {
		if got := Apply(Apply(x, m, 1, 1), m, 2, 2); !same(got, x) {
			t.Errorf("%v switched twice is %v", x, got)
		}
	}
}

func TestExamples(t *testing.T) {
	m, err := Parse("pt+=2/-1")
	if got := Apply(api.Traits{Power: 1, Tough: 4}, m, 0, 0); err != api.OK || got.Power != 3 || got.Tough != 3 {
		t.Errorf("1/4 with pt+=2/-1 is %d/%d", got.Power, got.Tough)
	}
}
