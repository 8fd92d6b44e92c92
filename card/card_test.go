package card

import (
	"math"
	"reflect"
	"regexp"
	"slices"
	"strings"
	"testing"

	"cardgame/ability"
	"cardgame/api"
	"cardgame/probe"
)

// goodNames returns names.
func goodNames() []string {
	return []string{"a", "ember-fox", "card", "token", "type", "x9", "a-1-b", strings.Repeat("n", 32)}
}

// badNames returns strings that are no names.
func badNames() []string {
	return []string{"", "Fox", "9a", "-a", "a-", "a--b", "a b", " a", "a ", "a\n", "a\nb", "é", "\x00", "\xff", strings.Repeat("n", 33), strings.Repeat("n", 1<<20)}
}

// goodCosts returns valid costs by their texts.
func goodCosts() map[string]api.Cost {
	return map[string]api.Cost{
		"0":         {},
		"1R":        {Generic: 1, Color: [5]int{3: 1}},
		"XX99ACJRE": {X: 2, Generic: 99, Color: [5]int{1, 1, 1, 1, 1}},
		"EEEEEEEEE": {Color: [5]int{4: 9}},
		"X":         {X: 1},
	}
}

// badCosts returns costs that are not valid.
func badCosts() []api.Cost {
	return []api.Cost{{Generic: -1}, {Generic: 100}, {X: -1}, {X: 3}, {Color: [5]int{10}}, {Color: [5]int{4: -1}}, {Generic: math.MaxInt}, {X: math.MinInt}, {Generic: 1, Color: [5]int{2: 1 << 40}}}
}

// goodColors returns sets of colours by their texts, of which that of no colours is left out of the text of a card.
func goodColors() map[string]int {
	return map[string]int{"": 0, "jet": api.Jet, "amber+ruby": api.Amber | api.Ruby, "amber+cobalt+jet+ruby+emerald": api.AllColors}
}

// goodLines returns valid type lines by their texts.
func goodLines() map[string]api.Line {
	return map[string]api.Line{
		"creature fox":                   {Types: api.Creature, Subs: []string{"fox"}},
		"instant":                        {Types: api.Instant},
		"ritual arcane":                  {Types: api.Ritual, Subs: []string{"arcane"}},
		"relic":                          {Types: api.Relic},
		"charm":                          {Types: api.Charm},
		"basic land":                     {Super: api.Basic, Types: api.Land},
		"creature land":                  {Types: api.Creature | api.Land},
		"unique relic charm a b c d":     {Super: api.Unique, Types: api.Relic | api.Charm, Subs: []string{"a", "b", "c", "d"}},
		"basic unique instant":           {Super: api.AllSupers, Types: api.Instant},
		"creature relic charm land tree": {Types: api.Permanent, Subs: []string{"tree"}},
	}
}

// badLines returns type lines that are not valid.
func badLines() []api.Line {
	return []api.Line{
		{}, {Types: 64}, {Types: -1}, {Types: api.AllTypes}, {Types: api.Creature | api.Instant}, {Types: api.Instant | api.Ritual}, {Types: api.Ritual | api.Land}, {Super: 4, Types: api.Relic}, {Super: -1, Types: api.Land},
		{Types: api.Relic, Subs: []string{""}}, {Types: api.Relic, Subs: []string{"land"}}, {Types: api.Creature, Subs: []string{"b", "a"}}, {Types: api.Creature, Subs: []string{"a", "a"}}, {Types: api.Charm, Subs: []string{"a", "b", "c", "d", "e"}},
		{Types: math.MaxInt}, {Types: math.MinInt}, {Types: 1<<32 | api.Creature},
	}
}

// goodKeys returns sets of keywords by their texts, of which that of no keywords is left out of the text of a card.
func goodKeys() map[string]int {
	return map[string]int{"": 0, "haste": api.Haste, "flying+must-attack": api.Flying | api.MustAttack}
}

// goodAbilities returns valid lists of abilities by their texts, a line for each of them.
func goodAbilities() map[string][]api.Ability {
	all := map[string][]api.Ability{"": nil}
	for _, lines := range [][]string{
		{"spell: win"}, {"spell [player or (creature)]: damage target1 3; draw you 1"}, {"spell: win", "spell: win"}, {"spell: win", "static (any) blank"}, {"static (any) blank", "spell: win"},
		{"use {tap}: mana E"}, {"static (yours creature) pt+=1/1", "when dies (yours creature) may: draw you 1"}, {"replace enters (self) with 3 charge"},
		slices.Repeat([]string{"use {tap}: mana E"}, 7), {"use {1}: win", "use {1}: win", "use {0} slow: win", "static (any) blank", "when end any: win", "replace hurt you prevent", "use {J, life 2}: win", "static (any) control"},
		slices.Repeat([]string{"when upkeep any: win"}, 8),
	} {
		var l []api.Ability
		for _, s := range lines {
			a, _ := ability.Parse(s)
			l = append(l, a)
		}
		all[strings.Join(lines, "\n")+"\n"] = l
	}
	return all
}

// badAbilities returns lists of abilities that no card has, none of them empty.
func badAbilities() [][]api.Ability {
	use, _ := ability.Parse("use {tap}: mana E")
	spell, _ := ability.Parse("spell: win")
	far, _ := ability.Parse("spell [player]: tap target1")
	far.Specs = nil
	return [][]api.Ability{
		{{}}, {{Kind: api.AbSpell}}, {use, {}}, {{}, use}, {{}, spell}, {spell, {}}, {far}, {{Kind: 6}}, slices.Repeat([]api.Ability{use}, 9), slices.Repeat([]api.Ability{spell}, 9), slices.Repeat([]api.Ability{use}, 100),
		append(slices.Repeat([]api.Ability{use}, 7), api.Ability{}),
	}
}

// A part is lines of a text of a card, and what they say of the card.
type part struct {
	text string
	set  func(c *api.Card)
}

// parts returns parts for each of the fields, in the order of the texts.
func parts() [][]part {
	var names, costs, colors, lines, sizes, keys, abilities []part
	for _, s := range []string{"ember-fox", "token"} {
		names = append(names, part{"card " + s + "\n", func(c *api.Card) { c.Name = s }})
		names = append(names, part{"token " + s + "\n", func(c *api.Card) { c.Name, c.Token = s, true }})
	}
	none := part{"", func(c *api.Card) {}}
	costs, sizes = append(costs, none), append(sizes, none)
	for s, x := range goodCosts() {
		costs = append(costs, part{"cost " + s + "\n", func(c *api.Card) { c.Cost = x }})
	}
	for s, x := range goodColors() {
		colors = append(colors, part{optional("color", s), func(c *api.Card) { c.Color = x }})
	}
	for s, x := range goodLines() {
		lines = append(lines, part{"type " + s + "\n", func(c *api.Card) { c.Line = x }})
	}
	for s, x := range map[string][2]int{"power 0\ntough 0\n": {}, "power 3\ntough 10\n": {3, 10}, "power 99\ntough 98\n": {99, 98}} {
		sizes = append(sizes, part{s, func(c *api.Card) { c.Power, c.Tough = x[0], x[1] }})
	}
	for s, x := range goodKeys() {
		keys = append(keys, part{optional("keys", s), func(c *api.Card) { c.Keys = x }})
	}
	for s, x := range goodAbilities() {
		abilities = append(abilities, part{s, func(c *api.Card) { c.Abilities = x }})
	}
	return [][]part{names, costs, colors, lines, sizes, keys, abilities}
}

// optional returns a line, or nothing if there is no text.
func optional(head, text string) string {
	if text == "" {
		return ""
	}
	return head + " " + text + "\n"
}

// combine calls check with text and c extended by all combinations of one element of each list.
func combine(lists [][]part, text string, c api.Card, check func(text string, c api.Card)) {
	if len(lists) == 0 {
		check(text, c)
		return
	}
	for _, x := range lists[0] {
		other := c
		x.set(&other)
		combine(lists[1:], text+x.text, other, check)
	}
}

// hasLines reports whether a text of parts has a cost and a size if c has to have them, and only then.
func hasLines(text string, c api.Card) bool {
	return strings.Contains(text, "\ncost ") == (!c.Token && c.Line.Types < 32) && strings.Contains(text, "\npower ") == (c.Line.Types%2 == 1)
}

// samples returns the valid cards of all combinations of parts, by their texts.
func samples() map[string]api.Card {
	all := map[string]api.Card{}
	combine(parts(), "", api.Card{}, func(text string, c api.Card) {
		if hasLines(text, c) && valid(c) {
			all[text] = c
		}
	})
	return all
}

// few returns some cards by their texts, one of each form.
func few() map[string]api.Card {
	all := map[string]api.Card{}
	for _, s := range []string{
		"card ember-fox\ncost 1R\ntype creature fox\npower 2\ntough 1\nkeys haste\n",
		"card spring\ntype basic land\nuse {tap}: mana E\n",
		"token imp\ncolor jet\ntype creature imp\npower 10\ntough 0\nkeys flying+haste\nwhen dies (self): draw you 1\n",
		"card bolt\ncost XR\ntype instant\nspell [player or (creature)]: damage target1 3\n",
		"card night\ncost 0\ncolor amber+jet\ntype ritual a b\nspell: win\n",
		"card banner\ncost 2\ntype relic\nstatic (yours creature) pt+=1/1\nwhen dies (yours creature) may: draw you 1\n",
		"token orb\ntype relic charm\n",
		"card den\ntype creature land\npower 0\ntough 99\nkeys defender\n",
	} {
		c, _ := Parse(s)
		all[s] = c
	}
	return all
}

// typeWords returns the words that are no subtypes.
func typeWords() []string {
	return strings.Fields("basic unique creature instant ritual relic charm land")
}

// A name, if it has at most 32 bytes.
var nameText = regexp.MustCompile(`^[a-z](-?[a-z0-9])*$`)

// isName is the definition of names.
func isName(s string) bool {
	return len(s) <= 32 && nameText.MatchString(s)
}

// valid is the definition of cards, written out.
func valid(c api.Card) bool {
	for i, sub := range c.Line.Subs {
		if !isName(sub) || i > 3 || i > 0 && c.Line.Subs[i-1] >= sub || slices.Contains(typeWords(), sub) {
			return false
		}
	}
	if !isName(c.Name) || c.Cost.Generic < 0 || c.Cost.Generic > 99 || c.Cost.X < 0 || c.Cost.X > 2 {
		return false
	}
	for _, n := range c.Cost.Color {
		if n < 0 || n > 9 {
			return false
		}
	}
	if c.Color < 0 || c.Color > 31 || c.Keys < 0 || c.Keys > 131071 || c.Line.Super < 0 || c.Line.Super > 3 {
		return false
	}
	types := c.Line.Types
	if types < 1 || types > 63 || types&6 != 0 && types != 2 && types != 4 {
		return false
	}
	if c.Power < 0 || c.Power > 99 || c.Tough < 0 || c.Tough > 99 || types%2 == 0 && (c.Power != 0 || c.Tough != 0) {
		return false
	}
	spells := 0
	for _, a := range c.Abilities {
		if !ability.Is(a) {
			return false
		}
		if a.Kind == 2 {
			spells++
		}
	}
	if types == 2 || types == 4 {
		return !c.Token && c.Keys == 0 && spells == 1 && len(c.Abilities) == 1
	}
	return spells == 0 && len(c.Abilities) < 9 && (!c.Token && types < 32 || c.Cost == api.Cost{})
}

// checkIs compares Is with the definition, and Text with what follows from it.
func checkIs(t *testing.T, c api.Card) {
	t.Helper()
	want := valid(c)
	c.Name = c.Name[:min(len(c.Name), 40)]
	if got := Is(c); got != want {
		t.Errorf("Is(%v) = %v", c, got)
	}
	if got := Text(c); (got != "") != want {
		t.Errorf("Text(%v) = %.80q", c, got)
	}
}

// variants returns c with each field replaced, one at a time, by good and bad values of every kind.
func variants(c api.Card) []api.Card {
	all := []api.Card{c}
	add := func(change func(c *api.Card)) {
		other := c
		change(&other)
		all = append(all, other)
	}
	add(func(c *api.Card) { c.Token = !c.Token })
	for _, s := range append(goodNames(), badNames()...) {
		add(func(c *api.Card) { c.Name = s })
	}
	for i := range 10 {
		for _, n := range probe.Numbers() {
			add(func(c *api.Card) {
				*[]*int{&c.Color, &c.Line.Super, &c.Line.Types, &c.Power, &c.Tough, &c.Keys, &c.Cost.Generic, &c.Cost.X, &c.Cost.Color[0], &c.Cost.Color[4]}[i] = n
			})
		}
	}
	for _, l := range badLines() {
		add(func(c *api.Card) { c.Line = l })
	}
	for _, l := range goodLines() {
		add(func(c *api.Card) { c.Line = l })
		add(func(c *api.Card) { c.Line, c.Power, c.Tough = l, 0, 0 })
		add(func(c *api.Card) { c.Line, c.Cost = l, api.Cost{} })
		add(func(c *api.Card) { c.Line, c.Power, c.Tough, c.Cost = l, 0, 0, api.Cost{} })
		add(func(c *api.Card) { c.Line, c.Power, c.Tough, c.Keys = l, 0, 0, 0 })
	}
	for _, cost := range badCosts() {
		add(func(c *api.Card) { c.Cost = cost })
	}
	for _, cost := range goodCosts() {
		add(func(c *api.Card) { c.Cost = cost })
		add(func(c *api.Card) { c.Cost, c.Token = cost, !c.Token })
	}
	lists := append(badAbilities(), nil, []api.Ability{})
	for _, l := range goodAbilities() {
		lists = append(lists, l)
	}
	for _, l := range lists {
		add(func(c *api.Card) { c.Abilities = l })
		for _, line := range goodLines() {
			add(func(c *api.Card) { c.Abilities, c.Line, c.Power, c.Tough = l, line, 0, 0 })
			add(func(c *api.Card) { c.Abilities, c.Line, c.Power, c.Tough, c.Keys = l, line, 0, 0, 0 })
		}
	}
	return all
}

// P21.1: every field of cards of every form, at and beyond its borders.
func TestIsOfFields(t *testing.T) {
	checkIs(t, api.Card{})
	for _, c := range few() {
		for _, other := range variants(c) {
			checkIs(t, other)
		}
	}
}

// P21.1: the values of the fields of all samples with the type lines of all others.
func TestIsOfOtherTypes(t *testing.T) {
	for _, c := range samples() {
		for _, l := range goodLines() {
			c.Line = l
			checkIs(t, c)
		}
	}
}

// P21.1: power and toughness of all combinations of types.
func TestIsOfSizes(t *testing.T) {
	for types := range 70 {
		for _, n := range []int{-1, 0, 1, 99, 100} {
			for _, m := range []int{-1, 0, 1, 99, 100} {
				isSize := func(n int) bool { return n == 0 || types%2 == 1 && n > 0 && n < 100 }
				want := types > 0 && types < 64 && types&6 == 0 && isSize(n) && isSize(m)
				c := api.Card{Name: "a", Line: api.Line{Types: types}, Power: n, Tough: m}
				if got := Is(c); got != want {
					t.Errorf("types %d, size %d/%d: %v", types, n, m, got)
				}
			}
		}
	}
}

func TestIsOfNames(t *testing.T) { // P21.1
	for i, names := range [][]string{goodNames(), badNames()} {
		for _, s := range names {
			if got := Is(api.Card{Name: s, Line: api.Line{Types: api.Charm}}); got != (i == 0) {
				t.Errorf("%.40q: %v", s, got)
			}
		}
	}
}

// fill gives every field below v a value that is not zero, and every slice two elements.
func fill(v reflect.Value) {
	switch v.Kind() {
	case reflect.Int:
		v.SetInt(7)
	case reflect.Bool:
		v.SetBool(true)
	case reflect.String:
		v.SetString("fox")
	case reflect.Slice:
		v.Set(reflect.MakeSlice(v.Type(), 2, 2))
		fallthrough
	case reflect.Array:
		for i := range v.Len() {
			fill(v.Index(i))
		}
	case reflect.Struct:
		for i := range v.NumField() {
			fill(v.Field(i))
		}
	default:
		panic("fill does not know " + v.Kind().String())
	}
}

// change calls check with every single change of what is below v: each number, bool and string, and each slice shorter or
// longer. It undoes each change.
func change(v reflect.Value, check func(path string), path string) {
	old := reflect.New(v.Type()).Elem()
	old.Set(v)
	set := func(to reflect.Value) {
		v.Set(to)
		check(path)
		v.Set(old)
	}
	switch v.Kind() {
	case reflect.Int:
		set(reflect.ValueOf(int(v.Int()) + 1))
	case reflect.Bool:
		set(reflect.ValueOf(!v.Bool()))
	case reflect.String:
		set(reflect.ValueOf(v.String() + "x"))
	case reflect.Slice:
		set(v.Slice(0, v.Len()-1))
		set(reflect.Append(v.Slice3(0, v.Len(), v.Len()), v.Index(0)))
		fallthrough
	case reflect.Array:
		for i := range v.Len() {
			change(v.Index(i), check, path+"[]")
		}
	case reflect.Struct:
		for i := range v.NumField() {
			change(v.Field(i), check, path+"."+v.Type().Field(i).Name)
		}
	}
}

// P21.1: cards that differ in any element, valid or not, are different.
func TestSameOfElements(t *testing.T) {
	var a, b api.Card
	fill(reflect.ValueOf(&a).Elem())
	fill(reflect.ValueOf(&b).Elem())
	changes := 0
	change(reflect.ValueOf(&a).Elem(), func(path string) {
		changes++
		if Same(a, b) || Same(b, a) {
			t.Errorf("a change of %s leaves cards equal", path)
		}
	}, "")
	if changes < 100 || !Same(a, b) || !Same(api.Card{}, api.Card{}) {
		t.Errorf("%d changes; equal cards are different", changes)
	}
}

func TestSameOfCards(t *testing.T) { // P21.1
	for s, a := range few() {
		for other, b := range few() {
			if got := Same(a, b); got != (s == other) {
				t.Errorf("Same of %q and %q is %v", s, other, got)
			}
		}
	}
}

func TestSameOfEmptyLists(t *testing.T) { // P21.1
	for _, pair := range [][2]api.Card{
		{{Name: "a"}, {Name: "a", Line: api.Line{Subs: []string{}}, Abilities: []api.Ability{}}},
		{{Abilities: []api.Ability{{}}}, {Abilities: []api.Ability{{Mods: []api.Mod{}, Specs: []api.Spec{}, Effects: []api.Effect{}}}}},
		{{Abilities: []api.Ability{{Effects: []api.Effect{{}}}}}, {Abilities: []api.Ability{{Effects: []api.Effect{{Mods: []api.Mod{}}}}}}},
	} {
		if !Same(pair[0], pair[1]) || !Same(pair[1], pair[0]) {
			t.Errorf("%#v and %#v are different", pair[0], pair[1])
		}
	}
	if Same(api.Card{}, api.Card{Abilities: []api.Ability{{}}}) || Same(api.Card{Line: api.Line{Subs: []string{""}}}, api.Card{}) {
		t.Error("a list with an element is like one without")
	}
}

// P21.2: all combinations of parts, in which not more and not fewer lines than those of the card may occur.
func TestTextAndParse(t *testing.T) {
	good := 0
	combine(parts(), "", api.Card{}, func(text string, c api.Card) {
		isText := valid(c) && hasLines(text, c)
		want, wantErr := api.Card{}, api.ErrForm
		if isText {
			want, wantErr = c, api.OK
			good++
		}
		if got := Text(c); (got == text) != isText || (got != "") != valid(c) {
			t.Errorf("Text(%v) = %q", c, got)
		}
		if got, err := Parse(text); !Same(got, want) || err != wantErr {
			t.Errorf("Parse(%q) = %v, %v", text, got, err)
		}
	})
	if good < 1000 {
		t.Errorf("%d valid cards", good)
	}
}

func TestExamples(t *testing.T) {
	fox := api.Card{
		Name: "ember-fox", Cost: api.Cost{Generic: 1, Color: [5]int{3: 1}}, Line: api.Line{Types: api.Creature, Subs: []string{"fox"}},
		Power: 2, Tough: 1, Keys: api.Haste,
	}
	text := "card ember-fox\ncost 1R\ntype creature fox\npower 2\ntough 1\nkeys haste\n"
	if got, err := Parse(text); !reflect.DeepEqual(got, fox) || err != api.OK || Text(fox) != text || !Is(fox) {
		t.Errorf("Parse(%q) = %v, %v", text, got, err)
	}
}
