package effect

import (
	"math"
	"regexp"
	"slices"
	"strconv"
	"strings"
	"testing"

	"cardgame/amount"
	"cardgame/api"
	"cardgame/filter"
	"cardgame/mana"
	"cardgame/mod"
	"cardgame/probe"
	"cardgame/ref"
)

// operations returns the names of the operations and the fields that follow them in their texts, at the indexes of the
// operations: r is Ref, z Zone, k Counter, c Card, a Amount, p Pool, m Mods, b a Filter with ZBattlefield, l one with ZLibrary.
func operations() []string {
	return []string{
		"", "damage ra", "destroy r", "move rz", "draw ra", "discard ra", "gain ra", "lose ra", "tap r", "untap r", "put rka", "take rka", "create rca",
		"mod rm", "mana p", "counter r", "copy r", "become r", "sacrifice rab", "mill ra", "scry a", "search l", "shield ra", "turn ", "win ", "defeat r", "venom ra",
	}
}

// operation returns the name and the fields of an operation, and whether there is one.
func operation(op int) (string, string, bool) {
	if op < 1 || op > 26 {
		return "", "", false
	}
	return strings.Cut(operations()[op], " ")
}

// goodRefs returns references that are valid for MaxSpecs targets, by their texts.
func goodRefs() map[string]api.Ref {
	return map[string]api.Ref{
		"you": {Kind: api.RYou}, "self": {Kind: api.RSelf}, "target1": {Kind: api.RTarget, N: 1}, "target4": {Kind: api.RTarget, N: 4},
		"opponents": {Kind: api.ROpponents}, "players": {Kind: api.RPlayers}, "it": {Kind: api.RIt},
		"owner1": {Kind: api.RItsOwner, N: 1}, "owner3": {Kind: api.RItsOwner, N: 3}, "each(any)": {Kind: api.REach},
		"each(yours creature)": {Kind: api.REach, Filter: api.Filter{Who: api.You, Types: api.Creature}},
		"each(in-hand other)":  {Kind: api.REach, Filter: api.Filter{Zone: api.ZHand, Self: api.OnlyOther}},
	}
}

// badRefs returns references that are not valid, none of them zero.
func badRefs() []api.Ref {
	return []api.Ref{
		{Kind: -1}, {Kind: 9}, {N: 1}, {Kind: api.RTarget}, {Kind: api.RTarget, N: 5}, {Kind: api.RTarget, N: -1}, {Kind: api.RYou, N: 1}, {Kind: api.RItsOwner},
		{Kind: api.RItsOwner, N: 5}, {Kind: api.REach, N: 1}, {Kind: api.REach, Filter: api.Filter{Who: 3}}, {Kind: api.RIt, Filter: api.Filter{Who: api.You}},
		{Filter: api.Filter{Sub: "fox"}},
	}
}

// goodAmounts returns valid amounts by their texts.
func goodAmounts() map[string]api.Amount {
	return map[string]api.Amount{
		"0": {}, "3": {N: 3}, "1000000": {N: api.MaxNum}, "x": {Kind: api.AX}, "power": {Kind: api.APower}, "life": {Kind: api.ALife}, "hand": {Kind: api.AHand},
		"that": {Kind: api.AEvent}, "counters(plus)": {Kind: api.ACounters}, "counters(charge)": {Kind: api.ACounters, Counter: api.CCharge},
		"count(any)":            {Kind: api.ACount, N: 1},
		"count(yours creature)": {Kind: api.ACount, N: 1, Filter: api.Filter{Who: api.You, Types: api.Creature}},
		"99*count(in-library)":  {Kind: api.ACount, N: 99, Filter: api.Filter{Zone: api.ZLibrary}},
	}
}

// badAmounts returns amounts that are not valid.
func badAmounts() []api.Amount {
	return []api.Amount{
		{Kind: -1}, {Kind: 8}, {N: -1}, {N: api.MaxNum + 1}, {Counter: 1}, {Kind: api.AX, N: 1}, {Kind: api.ACount}, {Kind: api.ACount, N: 100},
		{Kind: api.ACount, N: 1, Filter: api.Filter{Zone: api.ZGone}}, {Kind: api.ACounters, Counter: 3}, {Kind: api.ALife, Filter: api.Filter{Who: api.You}},
	}
}

// goodCards returns names.
func goodCards() []string {
	return []string{"imp", "a", "z9", "ember-fox", "a-b-0", "you", "target1", "x", "plus", "win", strings.Repeat("a", api.MaxName)}
}

// badCards returns texts that are no names, the empty one excepted.
func badCards() []string {
	return []string{
		" ", "-", "A", "Imp", "9a", "a-", "-a", "a--b", "a b", " a", "a ", "(a)", "(a", "a)", "[a]", "a;", "a; b", "é", "a\n", "a\x00", "\xff",
		strings.Repeat("a", api.MaxName+1), strings.Repeat("a", api.MaxText),
	}
}

// goodPools returns pools that are valid for effects, by their texts.
func goodPools() map[string]api.Pool {
	return map[string]api.Pool{
		"1": {1}, "99": {99}, "A": {0, 1}, "C": {0, 0, 1}, "J": {0, 0, 0, 1}, "R": {0, 0, 0, 0, 1}, "E": {0, 0, 0, 0, 0, 1}, "2RR": {2, 0, 0, 0, 2},
		"10ACCJE": {10, 1, 2, 1, 0, 1}, "99AAAAAAAAACCCCCCCCCJJJJJJJJJRRRRRRRRREEEEEEEEE": {99, 9, 9, 9, 9, 9},
	}
}

// badPools returns pools that are not valid for effects, the empty one excepted.
func badPools() []api.Pool {
	all := []api.Pool{{100}, {99, 10}, {-1, 1}, {api.MaxNum}, {api.MaxNum + 1}, {math.MinInt}, {1, math.MaxInt}}
	for i := range 6 {
		for _, n := range []int{-1, 10, 100, api.MaxNum} {
			if i > 0 || n != 10 {
				p := api.Pool{1, 1, 1, 1, 1, 1}
				p[i] = n
				all = append(all, p)
			}
		}
	}
	return all
}

// goodMods returns lists of modifications by their texts.
func goodMods() map[string][]api.Mod {
	blank, pump := api.Mod{Kind: api.MDropAll}, api.Mod{Kind: api.MAddPT, N: 2, M: -1}
	return map[string][]api.Mod{
		"blank":                          {blank},
		"pt+=2/-1":                       {pump},
		"pt+=2/-1, blank":                {pump, blank},
		"pt=count(yours land), control":  {{Kind: api.MCountPT, Filter: api.Filter{Who: api.You, Types: api.Land}}, {Kind: api.MControl}},
		"colors=none, keys+=reach+haste": {{Kind: api.MSetColors}, {Kind: api.MAddKeys, N: api.Reach | api.Haste}},
		strings.Repeat("blank, ", 5) + "types+=land": append(slices.Repeat([]api.Mod{blank}, 5), api.Mod{Kind: api.MAddTypes, N: api.Land}),
	}
}

// badMods returns lists of modifications that are not valid, none of them empty.
func badMods() [][]api.Mod {
	blank := []api.Mod{{Kind: api.MDropAll}}
	return [][]api.Mod{{{}}, {{Kind: 15}}, {{Kind: api.MDropAll, N: 1}}, {blank[0], {}}, {{}, blank[0]}, {{Kind: api.MSetPT, N: 100}}, slices.Repeat(blank, 7), slices.Repeat(blank, 50)}
}

// choices returns functions that put values into a field, by the texts of the values: all good ones, for one of the letters
// of operations.
func choices(field rune) map[string]func(e *api.Effect) {
	all := map[string]func(e *api.Effect){}
	switch field {
	case 'r':
		for text, r := range goodRefs() {
			all[text] = func(e *api.Effect) { e.Ref = r }
		}
	case 'a':
		for text, a := range goodAmounts() {
			all[text] = func(e *api.Effect) { e.Amount = a }
		}
	case 'z':
		for zone, text := range []string{"battlefield", "hand", "library", "graveyard", "exile"} {
			all[text] = func(e *api.Effect) { e.Zone = zone }
		}
	case 'k':
		for kind, text := range []string{"plus", "minus", "charge"} {
			all[text] = func(e *api.Effect) { e.Counter = kind }
		}
	case 'c':
		for _, s := range goodCards() {
			all[s] = func(e *api.Effect) { e.Card = s }
		}
	case 'p':
		for text, p := range goodPools() {
			all[text] = func(e *api.Effect) { e.Pool = p }
		}
	case 'm':
		for text, l := range goodMods() {
			all["["+text+"]"] = func(e *api.Effect) { e.Mods = l }
		}
	case 'b', 'l':
		for text, f := range probe.Filters(map[rune]int{'b': api.ZBattlefield, 'l': api.ZLibrary}[field]) {
			all["("+text+")"] = func(e *api.Effect) { e.Filter = f }
		}
	}
	return all
}

// samples returns the effects of all operations with all combinations of the good values of their fields, by their texts.
func samples() map[string]api.Effect {
	all := map[string]api.Effect{}
	for op := 1; op <= 26; op++ {
		name, fields, _ := operation(op)
		some := map[string]api.Effect{name: {Op: op}}
		for _, field := range fields {
			more := map[string]api.Effect{}
			for start, e := range some {
				for text, put := range choices(field) {
					put(&e)
					more[start+" "+text] = e
				}
			}
			some = more
		}
		for text, e := range some {
			all[text] = e
		}
	}
	return all
}

// few returns effects of all operations, by their texts.
func few() map[string]api.Effect {
	all := map[string]api.Effect{}
	for text, e := range samples() {
		switch text {
		case "damage target1 3", "draw you x", "discard opponents count(yours creature)", "gain you 99*count(in-library)", "lose players life", "mill owner1 that", "shield self 0",
			"venom target4 counters(charge)", "destroy each(yours creature)", "tap target1", "untap self", "counter target4", "copy it", "become target1", "defeat opponents",
			"move self exile", "move each(in-hand other) battlefield", "put self plus 3", "take each(any) charge counters(charge)", "create owner3 ember-fox 3",
			"create you x x", "mod self [pt+=2/-1, blank]", "mod each(any) [pt=count(yours land), control]", "mana 2RR", "mana 10ACCJE",
			"sacrifice opponents 3 (creature)", "sacrifice each(any) count(any) (any)", "scry hand", "scry count(any)", "search (in-library)",
			"search (in-library sub:win with:flying)", "turn", "win":
			all[text] = e
		}
	}
	return all
}

// valid is the definition of effects that are valid for specs targets, written out field by field. It knows only the values
// above.
func valid(e api.Effect, specs int) bool {
	_, fields, ok := operation(e.Op)
	uses := func(field string) bool { return strings.Contains(fields, field) }
	zone := e.Zone == 0
	if uses("z") {
		zone = slices.Contains([]int{0, 1, 2, 3, 4}, e.Zone)
	}
	kind := e.Counter == 0
	if uses("k") {
		kind = slices.Contains([]int{0, 1, 2}, e.Counter)
	}
	card := e.Card == ""
	if uses("c") {
		card = slices.Contains(goodCards(), e.Card)
	}
	pool := e.Pool == api.Pool{}
	if uses("p") {
		pool = e.Pool != api.Pool{} && !slices.Contains(badPools(), e.Pool)
	}
	mods := len(e.Mods) == 0
	if uses("m") {
		mods = len(e.Mods) > 0 && !slices.ContainsFunc(badMods(), func(l []api.Mod) bool { return slices.Equal(l, e.Mods) })
	}
	return ok && zone && kind && card && pool && mods && validParts(e, fields, specs)
}

// validParts is the part of valid for references, amounts and filters.
func validParts(e api.Effect, fields string, specs int) bool {
	reference := e.Ref == api.Ref{}
	if strings.Contains(fields, "r") {
		reference = e.Ref != api.Ref{} && !slices.Contains(badRefs(), e.Ref) && (e.Ref.N == 0 || e.Ref.N <= specs)
	}
	number := e.Amount == api.Amount{}
	if strings.Contains(fields, "a") {
		number = !slices.Contains(badAmounts(), e.Amount)
	}
	condition := e.Filter == api.Filter{}
	if strings.Contains(fields, "b") {
		condition = e.Filter.Zone == 0 && !slices.Contains(probe.BadFilters(), e.Filter)
	} else if strings.Contains(fields, "l") {
		condition = e.Filter.Zone == 2 && !slices.Contains(probe.BadFilters(), e.Filter)
	}
	return reference && number && condition
}

// shortened returns e with texts and lists that are short enough for a message.
func shortened(e api.Effect) api.Effect {
	e.Card = e.Card[:min(len(e.Card), 40)]
	e.Mods = e.Mods[:min(len(e.Mods), 8)]
	return e
}

// checkIs compares Is(e, specs) with the definition, for several numbers of targets, and Text(e) with what follows from it.
func checkIs(t *testing.T, e api.Effect) {
	t.Helper()
	for _, specs := range []int{math.MinInt, 0, 1, 2, 3, 4, math.MaxInt} {
		want := valid(e, specs)
		if got := Is(e, specs); got != want {
			t.Errorf("Is(%v, %d) = %v", shortened(e), specs, got)
		}
		if specs == 4 && (Text(e) != "") != want {
			t.Errorf("Text(%v) = %.80q", shortened(e), Text(e))
		}
	}
}

// variants returns e with each field replaced, one at a time, by good and bad values of every kind.
func variants(e api.Effect) []api.Effect {
	all := []api.Effect{e}
	add := func(change func(e *api.Effect)) {
		other := e
		change(&other)
		all = append(all, other)
	}
	for _, field := range "razkcpmbl" {
		for _, put := range choices(field) {
			add(put)
		}
	}
	for _, n := range probe.Numbers() {
		add(func(e *api.Effect) { e.Op = n })
		add(func(e *api.Effect) { e.Zone = n })
		add(func(e *api.Effect) { e.Counter = n })
	}
	for _, r := range append(badRefs(), api.Ref{}, api.Ref{Kind: api.RTarget, N: 2}, api.Ref{Kind: api.RTarget, N: 3}, api.Ref{Kind: api.RItsOwner, N: 4}) {
		add(func(e *api.Effect) { e.Ref = r })
	}
	for _, a := range append(badAmounts(), api.Amount{}) {
		add(func(e *api.Effect) { e.Amount = a })
	}
	for _, f := range probe.BadFilters() {
		add(func(e *api.Effect) { e.Filter = f })
	}
	for zone := range api.ZGone {
		for _, f := range probe.Filters(zone) {
			add(func(e *api.Effect) { e.Filter = f })
		}
	}
	for _, s := range append(badCards(), "") {
		add(func(e *api.Effect) { e.Card = s })
	}
	for _, p := range append(badPools(), api.Pool{}) {
		add(func(e *api.Effect) { e.Pool = p })
	}
	for _, l := range append(badMods(), nil, []api.Mod{}) {
		add(func(e *api.Effect) { e.Mods = l })
	}
	return all
}

// P17.1: every field of every operation, used or not, at and beyond its borders.
func TestIsOfFields(t *testing.T) {
	list := []api.Effect{{}, {Op: -1}, {Op: 27}, {Op: 28}}
	for _, e := range few() {
		list = append(list, e)
	}
	for _, e := range list {
		for _, other := range variants(e) {
			checkIs(t, other)
		}
	}
}

// P17.1: every operation, with every combination of fields that are zero, valid and invalid.
func TestIsOfCombinations(t *testing.T) {
	refs := []api.Ref{{}, {Kind: api.RTarget, N: 2}, {Kind: 9}}
	amounts := []api.Amount{{}, {N: 1}, {N: -1}}
	counters := []int{0, 2, 3}
	zones := []int{0, 4, 5}
	cards := []string{"", "imp", "Imp"}
	filters := []api.Filter{{}, {Types: api.Land}, {Zone: api.ZLibrary}, {Zone: api.ZLibrary, Sub: "Fox"}}
	pools := []api.Pool{{}, {1}, {100}}
	mods := [][]api.Mod{nil, {{Kind: api.MControl}}, {{}}}
	for op := -1; op <= 28; op++ {
		for i := range 4 * 3 * 3 * 3 * 3 * 3 * 3 * 3 {
			pick := func(n int) int {
				at := i % n
				i /= n
				return at
			}
			e := api.Effect{
				Op: op, Filter: filters[pick(4)], Ref: refs[pick(3)], Amount: amounts[pick(3)], Counter: counters[pick(3)], Zone: zones[pick(3)],
				Card: cards[pick(3)], Pool: pools[pick(3)], Mods: mods[pick(3)],
			}
			name, fields, _ := operation(op)
			// Each of the conditions listed here makes an effect invalid: a bad value, a value of an unused field, or none of a used one.
			want := name != "" && !slices.ContainsFunc([]bool{
				(e.Ref == api.Ref{}) == strings.Contains(fields, "r"), e.Ref.Kind == 9, e.Zone == 5, e.Zone == 4 && !strings.Contains(fields, "z"),
				e.Counter == 3, e.Counter == 2 && !strings.Contains(fields, "k"), (e.Card == "") == strings.Contains(fields, "c"), e.Card == "Imp",
				e.Amount.N == -1, e.Amount.N == 1 && !strings.Contains(fields, "a"), (e.Pool == api.Pool{}) == strings.Contains(fields, "p"), e.Pool[0] == 100,
				(e.Mods == nil) == strings.Contains(fields, "m"), e.Mods != nil && e.Mods[0].Kind == 0, e.Filter.Sub != "",
				e.Filter.Types != 0 && !strings.Contains(fields, "b"), (e.Filter.Zone != 0) != strings.Contains(fields, "l"),
			}, func(bad bool) bool { return bad })
			if got := Is(e, 2); got != want {
				t.Errorf("Is(%v, 2) = %v", e, got)
			}
			if got := Is(e, 1); got != (want && e.Ref.N == 0) {
				t.Errorf("Is(%v, 1) = %v", e, got)
			}
		}
	}
}

func TestIsOfPools(t *testing.T) { // P17.1
	for i := range 6 {
		for _, n := range probe.Numbers() {
			for _, rest := range []api.Pool{{}, {1}, {0, 0, 3}, {0, 0, 0, 0, 0, 9}} {
				p := rest
				p[i] = n
				empty, whole := true, true
				for j, m := range p {
					empty = empty && m == 0
					whole = whole && 0 <= m && (m <= 9 || m <= 99 && j == 0)
				}
				if e := (api.Effect{Op: api.OpMana, Pool: p}); Is(e, 0) != (whole && !empty) || (Text(e) != "") != (whole && !empty) {
					t.Errorf("Is(%v, 0) = %v, Text = %q", e, Is(e, 0), Text(e))
				}
			}
		}
	}
}

func TestZoneName(t *testing.T) { // P17.1
	for zone, name := range map[int]string{
		api.ZBattlefield: "battlefield", api.ZHand: "hand", api.ZLibrary: "library", api.ZGraveyard: "graveyard", api.ZExile: "exile", api.ZStack: "stack",
	} {
		if got := ZoneName(zone); got != name {
			t.Errorf("ZoneName(%d) = %q, want %q", zone, got, name)
		}
	}
	for _, zone := range probe.Numbers() {
		if got := ZoneName(zone); (got == "") != (zone < 0 || zone > 5) {
			t.Errorf("ZoneName(%d) = %q", zone, got)
		}
	}
}

// same reports whether both effects are equal; an empty list is like none.
func same(a, b api.Effect) bool {
	return a.Op == b.Op && a.Ref == b.Ref && a.Amount == b.Amount && a.Counter == b.Counter && a.Zone == b.Zone && a.Card == b.Card &&
		a.Filter == b.Filter && a.Pool == b.Pool && slices.Equal(a.Mods, b.Mods)
}

// P17.2: texts of all samples. P17.4: Parse inverts them.
func TestTextAndParse(t *testing.T) {
	ops := map[int]bool{}
	for text, e := range samples() {
		ops[e.Op] = true
		if !Is(e, api.MaxSpecs) {
			t.Errorf("Is(%v) = false", e)
		}
		if got := Text(e); got != text {
			t.Errorf("Text(%v) = %q, want %q", e, got, text)
		}
		if got, err := Parse(text); !same(got, e) || err != api.OK {
			t.Errorf("Parse(%q) = %v, %v, want %v", text, got, err, e)
		}
	}
	if len(ops) != 26 || len(few()) != 33 {
		t.Errorf("%d operations, %d effects", len(ops), len(few()))
	}
}

// P17.4: different effects have different texts.
func TestTextsDiffer(t *testing.T) {
	seen := map[string]api.Effect{}
	for _, e := range few() {
		for _, other := range variants(e) {
			text := Text(other)
			if text == "" {
				continue
			}
			if before, ok := seen[text]; ok && !same(before, other) {
				t.Errorf("%q is the text of %v and of %v", text, before, other)
			}
			seen[text] = other
			if back, err := Parse(text); !same(back, other) || err != api.OK {
				t.Errorf("Parse(%q) = %v, %v, want %v", text, back, err, other)
			}
		}
	}
}

// form is an expression of texts, and the functions that report whether what its groups match are texts of fields.
type form struct {
	expression *regexp.Regexp
	parts      []func(s string) bool
}

// isParsed returns a function that reports whether parse accepts a text.
func isParsed[T any](parse func(s string) (T, api.Errno)) func(s string) bool {
	return func(s string) bool {
		_, err := parse(s)
		return err == api.OK
	}
}

// isFilter returns a function that reports whether a text is that of a filter with a zone.
func isFilter(zone int) func(s string) bool {
	return func(s string) bool {
		f, err := filter.Parse(s)
		return err == api.OK && f.Zone == zone
	}
}

// isText returns a function that reports whether s is the text of an effect by its definition. Whether parts are texts of
// references and so on is left to their packages.
func isText() func(s string) bool {
	const part = `([^ ()]+|[^ ()]*\([^()]*\))`
	isRef, isAmount := isParsed(ref.Parse), isParsed(amount.Parse)
	isPool := func(s string) bool {
		p, err := mana.ParsePool(s)
		return err == api.OK && p != api.Pool{}
	}
	isShort := func(s string) bool { return len(s) <= api.MaxName }
	formOf := func(expression string, parts ...func(s string) bool) form {
		return form{regexp.MustCompile(`(?s)^` + expression + `$`), parts}
	}
	forms := []form{
		formOf(`(?:damage|draw|discard|gain|lose|mill|shield|venom) `+part+` `+part, isRef, isAmount),
		formOf(`(?:destroy|tap|untap|counter|copy|become|defeat) `+part, isRef),
		formOf(`move `+part+` (?:battlefield|hand|library|graveyard|exile)`, isRef),
		formOf(`(?:put|take) `+part+` (?:plus|minus|charge) `+part, isRef, isAmount),
		formOf(`create `+part+` ([a-z][a-z0-9]*(?:-[a-z0-9]+)*) `+part, isRef, isShort, isAmount),
		formOf(`mod `+part+` \[(.*)\]`, isRef, isParsed(mod.ParseList)),
		formOf(`mana (.*)`, isPool),
		formOf(`sacrifice `+part+` `+part+` \((.*)\)`, isRef, isAmount, isFilter(api.ZBattlefield)),
		formOf(`scry (.*)`, isAmount),
		formOf(`search \((.*)\)`, isFilter(api.ZLibrary)),
		formOf(`(?:turn|win)`),
	}
	return func(s string) bool {
		for _, f := range forms {
			if groups := f.expression.FindStringSubmatch(s); groups != nil {
				for i, is := range f.parts {
					if !is(groups[i+1]) {
						return false
					}
				}
				return true
			}
		}
		return false
	}
}

// parseChecker returns a function that compares Parse(s) with the definition of the texts.
func parseChecker(t *testing.T) func(s string) {
	isText := isText()
	return func(s string) {
		t.Helper()
		e, err := Parse(s)
		if isText(s) {
			if err != api.OK || !Is(e, api.MaxSpecs) || Text(e) != s {
				t.Errorf("Parse(%.80q) = %v, %v", s, e, err)
			}
		} else if err != api.ErrForm || !same(e, api.Effect{}) {
			t.Errorf("Parse(%.80q) = %v, %v of no text", s, e, err)
		}
	}
}

// P17.2: every operation followed by all sequences of up to three parts, each behind a blank.
func TestParseOfParts(t *testing.T) {
	check := parseChecker(t)
	parts := []string{
		" you", " target1", " target5", " owner4", " each(any)", " 0", " 3", " x", " counters(plus)", " count(yours land)", " exile", " battlefield", " stack", " plus", " charge",
		" imp", " (creature)", " (in-library land)", " (any)", " [blank]", " [pt+=1/1, control]", " []", " 2RR", " A", " ", "",
	}
	for op := range 27 {
		name, _, _ := operation(op)
		probe.Extend(check, name, 3, parts)
	}
	probe.Extend(check, "put you", 3, parts)
	probe.Extend(check, "create target1 imp", 3, parts)
}

// P17.2: every text of up to four pieces of texts.
func TestParseOfPieces(t *testing.T) {
	check := parseChecker(t)
	probe.Extend(check, "", 4, []string{"damage", "destroy", "mod", "scry", "mana", "win", "turn", " ", "you", "each", "(", ")", "[", "]", "any", "blank", "1", "A", ";", "x"})
	probe.Extend(check, "mod self ", 5, []string{"[", "]", "blank", "control", ", ", ",", " ", "pt=count(", "any", ")"})
	probe.Extend(check, "search ", 5, []string{"(", ")", "in-library", "in-hand", "any", " ", "land", "yours"})
	probe.Extend(check, "mana ", 5, []string{"0", "1", "9", "A", "C", "E", "X", "-", " "})
}

func TestParseNearby(t *testing.T) { // P17.2
	check := parseChecker(t)
	for text := range few() {
		probe.Neighbours(check, text)
	}
	for _, s := range slices.Concat(goodCards(), badCards()) {
		check("create you " + s + " 1")
		check("create you " + s)
		check("create " + s + " you 1")
	}
}

func TestParseNumbers(t *testing.T) { // P17.2
	check := parseChecker(t)
	for _, n := range probe.Numbers() {
		s := strconv.Itoa(n)
		for _, start := range []string{"damage you ", "damage target", "scry ", "mana ", "mana A", "put self plus ", "put self ", "move self ", "create you imp ", "win ", ""} {
			check(start + s)
			check(start + "0" + s)
			check(start + "+" + s)
			check(start + s + " 1")
			check(start + s + "A")
		}
	}
}

func TestParseRejects(t *testing.T) { // P17.2
	long := 1 << 20
	for _, s := range []string{
		"", " ", "\n", "0", "you", "none", "Damage you 1", "damage", "damage ", "damage you", "damage you ", "damage 1", "damage 1 you", "damage you you", "damage you 1 ", " damage you 1",
		"damage  you 1", "damage you  1", "damage you 1\n", "damage you 1 1", "damage you, 1", "damage(you 1)", "damage you (1)", "damage (you) 1", "damage target5 1", "damage target0 1",
		"damage target 1", "damage you -1", "damage you 01", "damage you 1000001", "damage you 1*count(any)", "damage each(any 1", "damage each any 1", "damage each(fox) 1", "damages you 1",
		"damage\tyou 1", "damage you 1;", "damage you 1; win", "deal you 1", "hurt you 1", "draw", "draw 1", "draw you", "discard you (any) 1", "gain 1", "gain you all", "lose you",
		"destroy", "destroy ", "destroy you 1", "destroy target1 ", "destroy  target1", "destroy (creature)", "destroy target1 target2", "tap", "tap self self", "untap", "untap self tapped",
		"counter", "counter target1 1", "counter it 0", "copy", "copy target1 1", "become", "become target5", "defeat", "defeat you 1", "defeat loser",
		"move", "move self", "move exile", "move exile self", "move self stack", "move self gone", "move self in-hand", "move self Hand", "move self  hand", "move self hand ", "move self 1",
		"move self hand 1", "move self to hand", "move self (hand)", "move self exil", "move self exiled", "move self ",
		"put", "put self", "put self plus", "put self 1", "put self 1 plus", "put self none 1", "put self Plus 1", "put plus 1", "put plus self 1", "put self plus minus 1", "put self plus 1 1",
		"put self +1/+1 1", "put self plus  1", "put self  plus 1", "put self plus 1 ", "take self", "take self charges 1", "take self charge -1", "put self counters(plus) 1", "put self 0 1",
		"create", "create you", "create you imp", "create you 1", "create you 1 imp", "create imp 1", "create imp you 1", "create you Imp 1", "create you imp imp 1", "create you  1",
		"create you imp- 1", "create you (imp) 1", "create you 1imp 1", "create you imp 1 tapped", "create you " + strings.Repeat("a", 33) + " 1", "create you imp\x00 1",
		"mod", "mod self", "mod self ", "mod self []", "mod self blank", "mod self [blank", "mod self blank]", "mod self (blank)", "mod self [[blank]]", "mod self [blank] ", "mod self  [blank]",
		"mod [blank]", "mod [blank] self", "mod self [blank,blank]", "mod self [blank; blank]", "mod self [blank, ]", "mod self [, blank]", "mod self[blank]", "mod self [ blank]", "mod self [blank ]",
		"mod self [" + strings.Repeat("blank, ", 6) + "blank]", "mod self [types+=instant]", "mod self [none]", "mod self [blank] [blank]", "mod self [blank) ", "mod self [blank] 1",
		"mana", "mana ", "mana 0", "mana 00", "mana X", "mana XA", "mana x", "mana a", "mana AC 1", "mana CA", "mana A1", "mana 100", "mana 01", "mana -1", "mana AAAAAAAAAA", "mana 10A10", "mana you A",
		"mana A ", "mana  A", "mana {A}", "mana (A)", "mana 0A", "mana 1 A", "mana amber",
		"sacrifice", "sacrifice you", "sacrifice you 1", "sacrifice you (any)", "sacrifice 1 (any)", "sacrifice you (any) 1", "sacrifice you 1 any", "sacrifice you 1 ()", "sacrifice you 1 [any]",
		"sacrifice you 1 (any", "sacrifice you 1 any)", "sacrifice you 1 ((any))", "sacrifice you 1 (in-hand)", "sacrifice you 1 (in-library)", "sacrifice you 1 (on-stack creature)",
		"sacrifice you 1 (any) ", "sacrifice you 1  (any)", "sacrifice you 1(any)", "sacrifice you 1 (fox)", "sacrifice you 1 (any any)", "sacrifice you 1 (any) (any)", "sacrifice self (self)",
		"scry", "scry ", "scry you 1", "scry 1 1", "scry you", "scry -1", "scry 1 ", "scry  1", "scry (1)", "scry 1.5",
		"search", "search ", "search ()", "search (any)", "search in-library", "search (land)", "search (in-hand)", "search (in-graveyard land)", "search (on-stack)", "search (in-library",
		"search (in-library) ", "search  (in-library)", "search((in-library))", "search ((in-library))", "search [in-library]", "search you (in-library)", "search (in-library) 1",
		"search (land in-library)", "search (in-library any)", "search (in-library) (in-library)", "search(in-library)", "search (in-library in-library)", "search (in-exile)",
		"turn ", " turn", "turn 1", "turn you", "turns", "Turn", "turn()", "turn\n", "turnturn", "turn win", "win ", " win", "win 1", "win you", "wins", "WIN", "win()", "win;", ";win", "win; win",
		"shield you", "mill 3", "venom 1", "venom you", "shield", "exile self", "copy you; win", "prevent you 1", "\x00", "\xff", "win\x00", "win\xff",
		strings.Repeat("a", long), strings.Repeat(" ", long), strings.Repeat("(", long), strings.Repeat(")", long), strings.Repeat("win", long), strings.Repeat("win ", long),
		strings.Repeat("damage ", long), "damage" + strings.Repeat(" ", long) + "you 1", "damage you " + strings.Repeat("9", long), "damage each(" + strings.Repeat("any ", long) + ") 1",
		"damage " + strings.Repeat("(", long), "mod self [" + strings.Repeat("blank, ", long) + "blank]", "mod self " + strings.Repeat("[", long) + "blank" + strings.Repeat("]", long),
		"mana " + strings.Repeat("A", long), "mana " + strings.Repeat("9", long), "create you " + strings.Repeat("a", long) + " 1", "search (" + strings.Repeat("in-library ", long) + ")",
		"sacrifice you 1 (" + strings.Repeat("creature ", long) + ")", "move self " + strings.Repeat("hand", long), "put self " + strings.Repeat("plus ", long) + "1",
	} {
		if e, err := Parse(s); !same(e, api.Effect{}) || err != api.ErrForm {
			t.Errorf("Parse(%.80q) = %v, %v", s, e, err)
		}
	}
}

// fewList returns the texts of few in their order, and the effects in the same order.
func fewList() ([]string, []api.Effect) {
	var texts []string
	var effects []api.Effect
	all := few()
	for text := range all {
		texts = append(texts, text)
	}
	slices.Sort(texts)
	for _, text := range texts {
		effects = append(effects, all[text])
	}
	return texts, effects
}

// sameList reports whether both lists are equal.
func sameList(a, b []api.Effect) bool {
	return slices.EqualFunc(a, b, same)
}

// checkList checks ListText and ParseList of the valid list l, whose elements have the given texts.
func checkList(t *testing.T, l []api.Effect, texts []string) {
	t.Helper()
	want := strings.Join(texts, "; ")
	before := slices.Clone(l)
	if got := ListText(l); got != want || !sameList(l, before) {
		t.Errorf("ListText(%v) = %q, want %q", before, got, want)
	}
	if got, err := ParseList(want); !sameList(got, l) || err != api.OK {
		t.Errorf("ParseList(%q) = %v, %v, want %v", want, got, err, l)
	}
}

// P17.3: all lists of one or two effects, and longer ones of every length.
func TestLists(t *testing.T) {
	texts, effects := fewList()
	for i := range effects {
		for j := range effects {
			checkList(t, []api.Effect{effects[i], effects[j]}, []string{texts[i], texts[j]})
		}
		for n := 1; n <= 8; n++ {
			if i+n <= len(effects) {
				checkList(t, effects[i:i+n], texts[i:i+n])
			}
			checkList(t, slices.Repeat(effects[i:i+1], n), slices.Repeat(texts[i:i+1], n))
		}
	}
}

func TestListsOfOtherLengths(t *testing.T) { // P17.3
	texts, effects := fewList()
	for _, l := range [][]api.Effect{nil, {}, effects[:9], effects[:10], effects, slices.Repeat(effects[:1], 9), slices.Repeat(effects[:1], 1<<16)} {
		if got := ListText(l); got != "" {
			t.Errorf("ListText of %d elements is %q", len(l), got)
		}
	}
	for _, l := range [][]string{nil, texts[:9], texts[:10], texts, slices.Repeat(texts[:1], 9), slices.Repeat(texts[:1], 1<<16)} {
		if got, err := ParseList(strings.Join(l, "; ")); len(got) != 0 || err != api.ErrForm {
			t.Errorf("ParseList of %d elements is %v, %v", len(l), got, err)
		}
	}
}

// P17.3: a list with an invalid effect has no text, wherever that is.
func TestListTextOfInvalid(t *testing.T) {
	_, effects := fewList()
	for _, bad := range []api.Effect{
		{}, {Op: 27}, {Op: -1}, {Op: api.OpWin, Zone: 1}, {Op: api.OpMana}, {Op: api.OpDestroy, Ref: api.Ref{Kind: api.RTarget, N: 5}}, {Op: api.OpMod, Ref: api.Ref{Kind: api.RIt}},
	} {
		for n := range 8 {
			for at := range n + 1 {
				if got := ListText(slices.Insert(slices.Clone(effects[:n]), at, bad)); got != "" {
					t.Errorf("the text of a list with %v at %d of %d is %q", bad, at, n+1, got)
				}
			}
		}
	}
}

// listChecker returns a function that compares ParseList(s) with the definition of the texts. (No text contains a semicolon.)
func listChecker(t *testing.T) func(s string) {
	isText := isText()
	return func(s string) {
		t.Helper()
		parts := strings.Split(s, "; ")
		want := len(parts) <= 8
		for _, part := range parts {
			want = want && isText(part)
		}
		l, err := ParseList(s)
		if want {
			if err != api.OK || len(l) != len(parts) || ListText(l) != s {
				t.Errorf("ParseList(%.80q) = %v, %v", s, l, err)
			}
		} else if err != api.ErrForm || len(l) != 0 {
			t.Errorf("ParseList(%.80q) = %v, %v of no text", s, l, err)
		}
	}
}

func TestParseListOfPieces(t *testing.T) { // P17.3
	check := listChecker(t)
	probe.Extend(check, "", 5, []string{"win", "turn", "; ", ";", " ", "(", ")", "scry 1", "tap self", ", "})
	for n := 6; n <= 10; n++ {
		probe.Extend(check, strings.Repeat("win; ", n), 3, []string{"win", "turn", "; ", ";", " "})
	}
}

func TestParseListNearby(t *testing.T) { // P17.3
	check := listChecker(t)
	for _, text := range []string{
		"win", "damage target1 3; draw you 1", "mod self [blank, control]; sacrifice each(any) count(any) (any); search (in-library land); mana 2RR",
		"win; win; win; win; win; win; win; win", "turn; turn; turn; turn; turn; turn; turn; turn; turn",
	} {
		probe.Neighbours(check, text)
	}
}

func TestParseListRejects(t *testing.T) { // P17.3
	long := 1 << 20
	for _, s := range []string{
		"", " ", ";", "; ", "win;", "win; ", "; win", "win;win", "win ; win", "win;  win", "win; ; win", "win, win", "win; Win", "win; turn 1", "(win; win)", "[win; win]", "win; win\n",
		"(win); win", "win. win", "damage each(any; win", "damage each(any); win", "mod self [blank; win]", "mod self [blank; win", "win; win]", "win;\nwin", "win; win; win; win; win; win; win; win; win",
		strings.Repeat("win; ", long) + "win", strings.Repeat("; ", long), strings.Repeat("(", long) + "; win", strings.Repeat(";", long),
	} {
		if l, err := ParseList(s); len(l) != 0 || err != api.ErrForm {
			t.Errorf("ParseList(%.80q) = %v, %v", s, l, err)
		}
	}
}

// P17.2, P17.3: results share no memory with each other, and Text and ListText change nothing.
func TestSharesNothing(t *testing.T) {
	const text = "mod self [blank, control]"
	a, _ := Parse(text)
	b, _ := Parse(text)
	l, _ := ParseList(text + "; " + text)
	if Text(a) != text || ListText(l) != text+"; "+text {
		t.Fatalf("%v, %v", a, l)
	}
	clear(a.Mods)
	clear(l[0].Mods)
	if Text(b) != text || Text(l[1]) != text {
		t.Errorf("lists share memory: %v, %v", b, l)
	}
	mods := []api.Mod{{Kind: api.MDropAll}, {Kind: api.MControl}}
	e := api.Effect{Op: api.OpMod, Ref: api.Ref{Kind: api.RSelf}, Mods: mods}
	if Text(e) != text || ListText([]api.Effect{e}) != text || !slices.Equal(mods, b.Mods) {
		t.Errorf("%v changed", mods)
	}
}

func TestExamples(t *testing.T) {
	want := []api.Effect{
		{Op: api.OpDamage, Ref: api.Ref{Kind: api.RTarget, N: 1}, Amount: api.Amount{N: 3}},
		{Op: api.OpDraw, Ref: api.Ref{Kind: api.RYou}, Amount: api.Amount{N: 1}},
	}
	if l, err := ParseList("damage target1 3; draw you 1"); !sameList(l, want) || err != api.OK {
		t.Errorf("the list is %v, %v", l, err)
	}
	sacrifice := api.Effect{Op: api.OpSacrifice, Ref: api.Ref{Kind: api.ROpponents}, Amount: api.Amount{N: 1}, Filter: api.Filter{Types: api.Creature}}
	if e, err := Parse("sacrifice opponents 1 (creature)"); !same(e, sacrifice) || err != api.OK {
		t.Errorf("the effect is %v, %v", e, err)
	}
	each := api.Ref{Kind: api.REach, Filter: api.Filter{Who: api.You, Types: api.Creature}}
	mods := []api.Mod{{Kind: api.MAddPT, N: 1, M: 1}, {Kind: api.MAddKeys, N: api.Haste}}
	if e, err := Parse("mod each(yours creature) [pt+=1/1, keys+=haste]"); !same(e, api.Effect{Op: api.OpMod, Ref: each, Mods: mods}) || err != api.OK {
		t.Errorf("the effect is %v, %v", e, err)
	}
}
