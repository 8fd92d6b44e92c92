package ability

import (
	"regexp"
	"slices"
	"strconv"
	"strings"
	"testing"

	"cardgame/api"
	"cardgame/effect"
	"cardgame/filter"
	"cardgame/instead"
	"cardgame/mana"
	"cardgame/mod"
	"cardgame/probe"
	"cardgame/trigger"
)

// inverter returns a function that checks that Parse inverts Text for a valid ability, and that no other one that it was
// called with has the same text.
func inverter(t *testing.T) func(a api.Ability) {
	seen := map[string]bool{}
	return func(a api.Ability) {
		t.Helper()
		text := Text(a)
		if text == "" || seen[text] {
			t.Errorf("the text of %v is %q, like that of another ability", a, text)
		}
		seen[text] = true
		if back, err := Parse(text); !same(back, a) || err != api.OK {
			t.Errorf("Parse(%q) = %v, %v, want %v", text, back, err, a)
		}
	}
}

// P20.4: all combinations of the parts of prices.
func TestParseInvertsTextOfPrices(t *testing.T) {
	check := inverter(t)
	win := []api.Effect{{Op: api.OpWin}}
	checkOthers := func(c api.Cost, life int) {
		for i := range 8 {
			p := api.Price{Mana: c, Tap: i&1 != 0, Sacrifice: i&2 != 0, Life: life}
			check(api.Ability{Kind: api.AbActivated, Price: p, Slow: i&4 != 0, Effects: win})
		}
	}
	for generic := range 100 {
		for life := range 100 {
			checkOthers(api.Cost{Generic: generic}, life)
		}
	}
	for i := range 5 {
		for n := 1; n <= 9; n++ {
			for _, generic := range []int{0, 1, 10, 99} {
				for _, life := range []int{0, 1, 99} {
					c := api.Cost{Generic: generic}
					c.Color[i] = n
					checkOthers(c, life)
				}
			}
		}
	}
}

// P20.4: all lists of up to four of some specifications, for all kinds that have them, and all good specifications.
func TestParseInvertsTextOfTargets(t *testing.T) {
	check := inverter(t)
	some := []api.Spec{
		{Player: true}, {Object: true}, {Player: true, Object: true}, {Object: true, Filter: api.Filter{Zone: api.ZStack}},
		{Player: true, Object: true, Filter: api.Filter{Zone: api.ZGraveyard, Who: api.You, Sub: "or"}}, {Object: true, Filter: api.Filter{Sub: "player"}},
	}
	checkAll := func(l []api.Spec) {
		a := api.Ability{Specs: l, Effects: []api.Effect{{Op: api.OpTurn}}}
		for _, may := range []bool{false, true} {
			a.Kind, a.Slow, a.May = api.AbActivated, may, false
			check(a)
			a.Kind, a.Slow, a.May = api.AbTriggered, false, may
			for _, c := range goodTriggers() {
				a.Trigger = c
				check(a)
			}
			a.Trigger = api.Trigger{}
		}
		a.Kind, a.May = api.AbSpell, false
		check(a)
	}
	checkAll(nil)
	lists := [][]api.Spec{{}}
	for range 4 {
		var longer [][]api.Spec
		for _, l := range lists {
			for _, s := range some {
				longer = append(longer, append(slices.Clone(l), s))
			}
		}
		lists = longer
		for _, l := range lists {
			checkAll(l)
		}
	}
	for _, s := range goodSpecs() {
		if !slices.Contains(some, s) {
			checkAll([]api.Spec{s})
		}
	}
}

// P20.4: all good triggers, modifications and replacement effects of the layers below, of which probe knows the filters.
func TestParseInvertsTextOfOthers(t *testing.T) {
	check := inverter(t)
	for _, f := range probe.Filters(api.ZBattlefield) {
		for when := api.TEnters; when <= api.TPlaced; when++ {
			if c := (api.Trigger{When: when, Filter: f}); trigger.Is(c) && (f != api.Filter{}) {
				check(api.Ability{Kind: api.AbTriggered, Trigger: c, Effects: []api.Effect{{Op: api.OpWin}}})
			}
		}
		for n := 1; n <= 99; n++ {
			check(api.Ability{Kind: api.AbReplace, Replace: api.Replace{On: api.EvDamage, Filter: f, Do: api.DAdd, N: n}})
			check(api.Ability{Kind: api.AbStatic, Filter: f, Mods: []api.Mod{{Kind: api.MSetPT, N: n, M: 99}, {Kind: api.MSetPT, M: n}}})
		}
	}
	for when := api.TEnters; when <= api.TPlaced; when++ {
		for who := range 3 {
			for _, f := range []api.Filter{{}, {Zone: api.ZStack}, {Zone: api.ZStack, Types: api.Ritual}} {
				if c := (api.Trigger{When: when, Who: who, Filter: f}); trigger.Is(c) {
					for _, may := range []bool{false, true} {
						check(api.Ability{Kind: api.AbTriggered, Trigger: c, May: may, Effects: []api.Effect{{Op: api.OpWin}}})
					}
				}
			}
		}
	}
}

// The texts of one part each. The group is the text of a filter.
var (
	lifeText = regexp.MustCompile(`^life [1-9][0-9]?$`)
	specText = regexp.MustCompile(`^\[(?:player|(?:player or )?\(([^\[\]()]+)\))\]$`)
)

// isPriceText reports whether s is the text of a price.
func isPriceText(s string) bool {
	inside, begins := strings.CutPrefix(s, "{")
	inside, ends := strings.CutSuffix(inside, "}")
	if !begins || !ends {
		return false
	}
	isMana := func(s string) bool {
		c, err := mana.Parse(s)
		return err == api.OK && c.X == 0 && c != api.Cost{}
	}
	parts := strings.Split(inside, ", ")
	for _, is := range []func(s string) bool{
		isMana,
		func(s string) bool { return s == "tap" },
		func(s string) bool { return s == "sacrifice" },
		lifeText.MatchString,
	} {
		if len(parts) > 0 && is(parts[0]) {
			parts = parts[1:]
		}
	}
	return len(parts) == 0 || inside == "0"
}

// specTexts returns the texts of specifications that s consists of, each behind a blank, and whether there are such texts.
func specTexts(s string) ([]string, bool) {
	if s == "" {
		return nil, true
	}
	s, ok := strings.CutPrefix(s, " ")
	texts := strings.Split(s, "] [")
	for i := range texts {
		if i > 0 {
			texts[i] = "[" + texts[i]
		}
		if i < len(texts)-1 {
			texts[i] += "]"
		}
		groups := specText.FindStringSubmatch(texts[i])
		ok = ok && groups != nil
		if ok && groups[1] != "" {
			f, err := filter.Parse(groups[1])
			ok = err == api.OK && (f.Zone == 0 || f.Zone == 3 || f.Zone == 5)
		}
	}
	return texts, ok && len(texts) <= 4
}

// isTail reports whether the texts are those of specifications, each behind a blank, and of effects that fit them.
func isTail(specs, effects string) bool {
	texts, ok := specTexts(specs)
	l, err := effect.ParseList(effects)
	for _, e := range l {
		ok = ok && effect.Is(e, len(texts))
	}
	return ok && err == api.OK
}

// isText returns a function that reports whether s is the text of an ability, which follows from the texts of its parts.
func isText() func(s string) bool {
	static := regexp.MustCompile(`(?s)^static \(([^()]*)\) (.*)$`)
	spell := regexp.MustCompile(`(?s)^spell((?: \[.*\])?): (.*)$`)
	use := regexp.MustCompile(`(?s)^use ([^}]*\})(?: slow)?((?: \[.*\])?): (.*)$`)
	when := regexp.MustCompile(`(?s)^when ([a-z]+(?: (?:any|you|opponents))?(?: \([^()]*\))?)(?: may)?((?: \[.*\])?): (.*)$`)
	replace := regexp.MustCompile(`(?s)^replace (.*)$`)
	return func(s string) bool {
		if groups := static.FindStringSubmatch(s); groups != nil {
			f, errOfFilter := filter.Parse(groups[1])
			_, errOfMods := mod.ParseList(groups[2])
			return errOfFilter == api.OK && f.Zone == 0 && errOfMods == api.OK
		}
		if groups := spell.FindStringSubmatch(s); groups != nil {
			return isTail(groups[1], groups[2])
		}
		if groups := use.FindStringSubmatch(s); groups != nil {
			return isPriceText(groups[1]) && isTail(groups[2], groups[3])
		}
		if groups := when.FindStringSubmatch(s); groups != nil {
			_, err := trigger.Parse(groups[1])
			return err == api.OK && isTail(groups[2], groups[3])
		}
		if groups := replace.FindStringSubmatch(s); groups != nil {
			_, err := instead.Parse(groups[1])
			return err == api.OK
		}
		return false
	}
}

// parseChecker returns a function that compares Parse(s) with the definition of the texts.
func parseChecker(t *testing.T) func(s string) {
	isText := isText()
	return func(s string) {
		t.Helper()
		a, err := Parse(s)
		if isText(s) {
			if err != api.OK || !Is(a) || Text(a) != s {
				t.Errorf("Parse(%.80q) = %v, %v", s, a, err)
			}
		} else if err != api.ErrForm || !same(a, api.Ability{}) {
			t.Errorf("Parse(%.80q) = %v, %v of no text", s, a, err)
		}
	}
}

// P20.2: every kind followed by all sequences of some parts, each behind a blank, and by effects.
func TestParseOfParts(t *testing.T) {
	check := parseChecker(t)
	parts := []string{
		" {0}", " {tap}", " {2R, life 3}", " {X}", " {tap, 1}", " {}", " slow", " may", " [player]", " [(any)]", " [player or (in-graveyard)]", " [(in-hand)]", " []",
		" dies", " upkeep", " casts", " any", " you", " (any)", " (on-stack)", " (creature yours)", " blank", " hurt you skip", " hurt you prevent", " ", "",
	}
	for _, name := range []string{"static", "spell", "use", "when", "replace", "", "any"} {
		probe.Extend(func(s string) {
			check(s)
			check(s + ": win")
			check(s + ": damage target2 1; draw you 1")
		}, name, 3, parts)
	}
	for _, start := range []string{"use {1}", "use {tap, sacrifice} slow", "when casts any (on-stack)", "when dies (self)", "when gains you may", "spell [player] [player]"} {
		probe.Extend(func(s string) {
			check(s + ": scry 1")
			check(s + ": tap target1; tap target4")
		}, start, 4, []string{" slow", " may", " [player]", " [(any)]", " [(on-stack)]", " {0}", " [(in-exile)]", ""})
	}
}

// P20.2: every text of some pieces of texts.
func TestParseOfPieces(t *testing.T) {
	check := parseChecker(t)
	probe.Extend(check, "", 4, []string{"spell", "use", "when", ":", " ", "win", "upkeep", "you", "{0}", "[player]", "may", "slow"})
	probe.Extend(check, "static ", 4, []string{"(", ")", "any", "in-hand", "yours", " ", "blank", "control", ", ", "[", "]"})
	probe.Extend(check, "replace ", 5, []string{"hurt", "dies", " ", "you", "(any)", "prevent", "exile", ":"})
	probe.Extend(func(s string) {
		check("use " + s + ": win")
		check("use {" + s + "}: win")
	}, "", 4, []string{"tap", "sacrifice", "life", " ", ", ", ",", "0", "1", "A", "R", "{", "}", "X"})
	probe.Extend(func(s string) { check("use {" + s + "}: win") }, "", 7, []string{"1", "tap", "sacrifice", "life 1", ", "})
	probe.Extend(func(s string) {
		check("spell " + s + ": win")
		check("spell [" + s + "]: win")
		check("when end you [player] [" + s + "]: win")
	}, "", 4, []string{"player", "or", " or ", " ", "(", ")", "any", "creature", "[", "]", "in-graveyard", "on-stack"})
	probe.Extend(func(s string) { check("spell [player]" + s + "win") }, "", 4, []string{":", " ", ";", "; ", "win", "[player]", ", ", ": "})
}

func TestParseNearby(t *testing.T) { // P20.2
	check := parseChecker(t)
	for text := range few() {
		probe.Neighbours(check, text)
	}
}

// P20.2: more specifications, effects and modifications than there may be.
func TestParseOfLists(t *testing.T) {
	check := parseChecker(t)
	for n := range 12 {
		for _, start := range []string{"spell", "use {0}", "use {0} slow", "when end any", "when end any may"} {
			for m := range 12 {
				check(start + strings.Repeat(" [player]", n) + ": " + strings.Repeat("win; ", m) + "win")
			}
			for m := range 7 {
				check(start + strings.Repeat(" [(any)]", n) + ": tap target" + strconv.Itoa(m))
				check(start + strings.Repeat(" [(any)]", n) + ": win; defeat owner" + strconv.Itoa(m))
			}
		}
		check("static (any) " + strings.Repeat("blank, ", n) + "blank")
	}
}

func TestParseNumbers(t *testing.T) { // P20.2
	check := parseChecker(t)
	for _, n := range probe.Numbers() {
		s := strconv.Itoa(n)
		for _, number := range []string{s, "0" + s, "+" + s, s + " ", " " + s, s + "A", "A" + s, "X" + s} {
			check("use {" + number + "}: win")
			check("use {life " + number + "}: win")
			check("use {tap, life " + number + "} slow: win")
			check("use {tap, " + number + "}: win")
			check("use {" + number + ", sacrifice, life 1}: win")
			check("use " + number + ": win")
			check("spell [player] [player]: tap target" + number)
			check("spell: scry " + number)
			check("replace hurt you add " + number)
			check("static (power=" + number + ") pt=" + number + "/1")
			check("when dies (value=" + number + "): mana " + number)
		}
	}
}

func TestParseRejects(t *testing.T) { // P20.2
	long := 1 << 20
	for _, s := range []string{
		"", " ", "\n", ":", ": ", ": win", "win", "draw you 1", "blank", "any", "none", "0", "{0}: win", "[player]: win", "(any) blank", "ability: win", "hurt you prevent", "upkeep you: win",
		"static", "static ", "static  ", "static (any)", "static (any) ", "static blank", "static any blank", "static () blank", "static [any] blank", "static (any) Blank", "Static (any) blank", "static(any) blank",
		"static  (any) blank", "static (any)  blank", "static (any)blank", " static (any) blank", "static (any) blank ", "static (any) blank\n", "static (any) [blank]", "static (any) blank,control",
		"static (any) blank; control", "static (any) blank, ", "static (any) , blank", "static (any) none", "static (in-hand) blank", "static (on-stack) blank", "static (in-graveyard creature) blank", "static (any): blank",
		"static (any any) blank", "static (any) (any) blank", "static blank (any)", "static (any) pt+=100/0", "static (any) types+=instant", "static (any) blank: win", "static: win", "static (any) win",
		"static [player]: win", "static you blank", "static (any) " + strings.Repeat("blank, ", 6) + "blank",
		"spell", "spell ", "spell:", "spell: ", "spell win", "spell:win", "spell :win", "spell : win", "spell:  win", "spell: win ", "spell: win\n", " spell: win", "Spell: win", "spells: win", "spell: Win", "spell: ; win",
		"spell: win;", "spell: win; ", "spell: win;win", "spell: win, win", "spell: spell: win", "spell: : win", "spell: win: win", "spell::win", "spell: none", "spell: blank", "spell: damage target1 1",
		"spell [player]: damage target2 1", "spell [player] [player]: win; tap target3", "spell []: win", "spell [ ]: win", "spell [(any)] []: win", "spell [any]: win", "spell (any): win", "spell player: win",
		"spell [you]: win", "spell [players]: win", "spell [Player]: win", "spell [player ]: win", "spell [ player]: win", "spell [player: win", "spell player]: win", "spell [[player]]: win", "spell ([player]): win",
		"spell [player]win", "spell [player]:win", "spell [player] : win", "spell[player]: win", "spell  [player]: win", "spell [player][player]: win", "spell [player]  [player]: win", "spell [player], [player]: win",
		"spell [player] or [player]: win", "spell [player player]: win", "spell [player or]: win", "spell [player or ]: win", "spell [player or player]: win", "spell [or (any)]: win", "spell [(any) or player]: win",
		"spell [player (any)]: win", "spell [player or any]: win", "spell [player or  (any)]: win", "spell [player or (any) ]: win", "spell [player  or (any)]: win", "spell [player or (any) or (any)]: win",
		"spell [player or player or (any)]: win", "spell [(any) or (any)]: win", "spell [player and (any)]: win", "spell [player, (any)]: win", "spell [player or ()]: win", "spell [()]: win", "spell [((any))]: win",
		"spell [(any)(any)]: win", "spell [(any) (any)]: win", "spell [(any)], win", "spell [(in-hand)]: win", "spell [(in-library)]: win", "spell [(in-exile)]: win", "spell [player or (in-hand)]: win", "spell [in-graveyard]: win",
		"spell [(in-battlefield)]: win", "spell [(fox)]: win", "spell [(creature yours)]: win", "spell [(any]: win", "spell [any)]: win", "spell [(any]): win", "spell [player]" + strings.Repeat(" [player]", 4) + ": win",
		"spell may: win", "spell slow: win", "spell {0}: win", "spell dies (self): win", "spell (any) blank", "spell [player] slow: win", "spell\t[player]: win", "spell: " + strings.Repeat("win; ", 8) + "win",
		"use", "use ", "use:", "use: win", "use : win", "use {0}", "use {0}:", "use {0}: ", "use {0} : win", "use {0}win", "use {0}:win", "use{0}: win", "use  {0}: win", "use {0}  slow: win", "use {0}slow: win", "use slow {0}: win",
		"use {}: win", "use { }: win", "use {0: win", "use 0}: win", "use 0: win", "use tap: win", "use (0): win", "use [0]: win", "use {{0}}: win", "use {0}}: win", "use {{0}: win", "use {0} {0}: win", "use {0}{0}: win",
		"use { 0}: win", "use {0 }: win", "use {00}: win", "use {01}: win", "use {0A}: win", "use {A0}: win", "use {RA}: win", "use {a}: win", "use {X}: win", "use {XX}: win", "use {X1}: win", "use {X, tap}: win", "use {100}: win",
		"use {-1}: win", "use {AAAAAAAAAA}: win", "use {0, tap}: win", "use {0, sacrifice}: win", "use {0, life 1}: win", "use {tap, 0}: win", "use {tap, 1}: win", "use {1, 1}: win", "use {1, A}: win", "use {tap, tap}: win",
		"use {tap,sacrifice}: win", "use {tap sacrifice}: win", "use {tap; sacrifice}: win", "use {tap,  sacrifice}: win", "use {tap , sacrifice}: win", "use {tap, }: win", "use {, tap}: win", "use {, }: win", "use {,}: win", "use {tap,}: win",
		"use {sacrifice, tap}: win", "use {life 1, tap}: win", "use {life 1, sacrifice}: win", "use {life 1, 1}: win", "use {sacrifice, 1}: win", "use {sacrifice, sacrifice}: win", "use {life 1, life 1}: win", "use {life 1, life 2}: win",
		"use {Tap}: win", "use {taps}: win", "use {untap}: win", "use {Sacrifice}: win", "use {sacrifice self}: win", "use {life}: win", "use {life }: win", "use {life 0}: win", "use {life 100}: win", "use {life -1}: win", "use {life 01}: win",
		"use {life  1}: win", "use {life1}: win", "use {life 1 }: win", "use {life x}: win", "use {1 life}: win", "use {life 1, }: win", "use {lives 1}: win", "use {1}, tap: win", "use {1} {tap}: win", "use {1} tap: win", "use {tap} : win",
		"use {0} Slow: win", "use {0} slow slow: win", "use {0} slow : win", "use {0} slowly: win", "use {0} may: win", "use {0} slow may: win", "use {0} may slow: win", "use {0} [player] slow: win", "use [player] {0}: win", "use {0} [player]",
		"use {0} slow", "use {0} slow[player]: win", "use {0} (any): win", "use {0} [(in-hand)]: win", "use {0}: damage target1 1", "use {0} [player]: win; tap target2", "Use {0}: win", "uses {0}: win", "use {0}: {0}: win", "use {0}: mana 0",
		"use {0}" + strings.Repeat(" [player]", 5) + ": win", "use {tap}: mana R ", "use {tap}: mana R;mana R", "use {tap}: mana", "use {tap} mana R", "use {(}: win", "use {)}: win", "use {[}: win", "use {]}: win", "use {tap: win}: win",
		"when", "when ", "when:", "when: win", "when : win", "when may: win", "when [player]: win", "when dies: win", "when dies (self)", "when dies (self):", "when dies (self): ", "when dies (self) win", "when dies (self):win",
		"when dies (self) : win", "when dies  (self): win", "when  dies (self): win", "when dies(self): win", "when dies self: win", "when dies [self]: win", "when (self) dies: win", "when dies you: win", "when dies you (self): win",
		"when dies (self) you: win", "when dies (self) (self): win", "when dies (in-graveyard): win", "when dies (on-stack): win", "when dies (self) May: win", "when dies (self) may may: win", "when dies (self) may : win", "when dies (self)may: win",
		"when dies (self)  may: win", "when may dies (self): win", "when dies may (self): win", "when dies (self) slow: win", "when dies (self) may slow: win", "when dies (self) {0}: win", "when dies (self) [player] may: win", "when dies (self) may[player]: win",
		"when dies (self) may", "when dies (self) may: ", "when dies (self) maybe: win", "when dies (self) [(in-exile)]: win", "when dies (self) may: damage target1 1", "when dies (self) [player] [player]: win; tap target3",
		"when upkeep: win", "when upkeep (any): win", "when upkeep may: win", "when upkeep [player]: win", "when upkeep any any: win", "when upkeep players: win", "when upkeep any (any): win", "when any upkeep: win", "when upkeep any  may: win",
		"when upkeep any win", "when upkeep any", "when casts: win", "when casts any: win", "when casts (on-stack): win", "when casts any may: win", "when casts any (any): win", "when casts any may (on-stack): win", "when casts (on-stack) any: win",
		"when casts any (on-stack)(on-stack): win", "when casts any  (on-stack): win", "when casts any [(on-stack)]: win", "When upkeep any: win", "whenever upkeep any: win", "when upkeep any, win", "when upkeep any; win", "when dies (self), attacks (self): win",
		"when upkeep any" + strings.Repeat(" [player]", 5) + ": win", "when upkeep any: replace hurt you prevent", "when upkeep any: " + strings.Repeat("win; ", 8) + "win",
		"replace", "replace ", "replace:", "replace: win", "replace hurt", "replace hurt you", "replace hurt any prevent", "replace  hurt you prevent", "replace hurt you prevent ", "replace hurt you prevent\n", " replace hurt you prevent",
		"Replace hurt you prevent", "replaces hurt you prevent", "replace: hurt you prevent", "replace hurt you: prevent", "replace (hurt you prevent)", "replace hurt you prevent: win", "replace hurt you prevent; hurt you double",
		"replace may hurt you prevent", "replace hurt you prevent may", "replace [player] hurt you prevent", "replace dies (in-hand) exile", "replace replace hurt you prevent", "replace upkeep you", "replace win", "instead hurt you prevent",
		"spell: win\x00", "\x00spell: win", "spell\xff: win", "\xff", "use {\xff}: win", "spell [\xff]: win", "when \xff: win", "static (\xff) blank", "spell: \xff", "use {0} \xff: win",
		strings.Repeat("a", long), strings.Repeat(" ", long), strings.Repeat(":", long), strings.Repeat(": ", long), strings.Repeat("(", long), strings.Repeat("[", long), strings.Repeat(")", long), strings.Repeat("{", long), strings.Repeat("}", long),
		strings.Repeat("spell", long), strings.Repeat("spell ", long) + ": win", "spell" + strings.Repeat(" [player]", long) + ": win", "spell: " + strings.Repeat("win; ", long) + "win", "spell " + strings.Repeat("[", long) + "player" + strings.Repeat("]", long) + ": win",
		"spell [" + strings.Repeat("player or ", long) + "(any)]: win", "spell [" + strings.Repeat("(any) or ", long) + "(any)]: win", "spell [(" + strings.Repeat("any ", long) + ")]: win", "spell: " + strings.Repeat("spell: ", long) + "win",
		"use {" + strings.Repeat("tap, ", long) + "tap}: win", "use {" + strings.Repeat("9", long) + "}: win", "use {" + strings.Repeat("A", long) + "}: win", "use {life " + strings.Repeat("9", long) + "}: win", "use " + strings.Repeat("{0} ", long) + ": win",
		"use {0} " + strings.Repeat("slow ", long) + ": win", "use {" + strings.Repeat(", ", long) + "}: win", "when " + strings.Repeat("dies ", long) + "(self): win", "when dies (self) " + strings.Repeat("may ", long) + ": win",
		"when dies " + strings.Repeat("(self) ", long) + ": win", "when casts any " + strings.Repeat("(", long) + "on-stack" + strings.Repeat(")", long) + ": win", "static (any) " + strings.Repeat("blank, ", long) + "blank",
		"static " + strings.Repeat("(any) ", long) + "blank", "replace " + strings.Repeat("hurt ", long) + "you prevent", strings.Repeat("replace ", long) + "hurt you prevent",
	} {
		if a, err := Parse(s); !same(a, api.Ability{}) || err != api.ErrForm {
			t.Errorf("Parse(%.80q) = %v, %v", s, a, err)
		}
	}
}

// P20.2: results share no memory with each other, and Text changes nothing.
func TestSharesNothing(t *testing.T) {
	for _, text := range []string{"static (any) blank, control", "spell [player] [(any)]: mod target2 [blank, control]; win"} {
		a, _ := Parse(text)
		b, _ := Parse(text)
		if Text(a) != text || Text(a) != text || SpecText(api.Spec{Player: true}) != "[player]" {
			t.Fatalf("%q: %v", text, a)
		}
		clear(a.Mods)
		clear(a.Specs)
		for _, e := range a.Effects {
			clear(e.Mods)
		}
		clear(a.Effects)
		if Text(b) != text {
			t.Errorf("abilities share memory: %v", b)
		}
	}
}

func TestExamples(t *testing.T) {
	use := api.Ability{
		Kind:    api.AbActivated,
		Price:   api.Price{Mana: api.Cost{Generic: 1, Color: [5]int{0, 0, 0, 1, 0}}, Tap: true},
		Specs:   []api.Spec{{Player: true, Object: true, Filter: api.Filter{Types: api.Creature}}},
		Effects: []api.Effect{{Op: api.OpDamage, Ref: api.Ref{Kind: api.RTarget, N: 1}, Amount: api.Amount{N: 1}}},
	}
	when := api.Ability{
		Kind:    api.AbTriggered,
		Trigger: api.Trigger{When: api.TDies, Filter: api.Filter{Self: api.OnlySelf}},
		May:     true,
		Effects: []api.Effect{{Op: api.OpDraw, Ref: api.Ref{Kind: api.RYou}, Amount: api.Amount{N: 1}}},
	}
	for text, want := range map[string]api.Ability{"use {1R, tap} [player or (creature)]: damage target1 1": use, "when dies (self) may: draw you 1": when} {
		if got, err := Parse(text); !same(got, want) || err != api.OK || Text(want) != text {
			t.Errorf("Parse(%q) = %v, %v", text, got, err)
		}
	}
}
