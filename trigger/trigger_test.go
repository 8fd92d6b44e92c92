package trigger

import (
	"regexp"
	"slices"
	"strconv"
	"strings"
	"testing"

	"cardgame/api"
	"cardgame/filter"
	"cardgame/probe"
)

// kinds returns what the texts consist of, at the indexes of the kinds: WHO is a word for players, F a filter with
// ZBattlefield, and S one with ZStack.
func kinds() []string {
	return []string{
		"", "enters (F)", "leaves (F)", "dies (F)", "attacks (F)", "blocks (F)", "deals (F)", "dealt (F)", "draws WHO", "casts WHO (S)",
		"upkeep WHO", "end WHO", "gains WHO", "loses WHO", "placed (F)",
	}
}

// kind returns what the texts of a kind consist of, or the empty string if there is no such kind.
func kind(when int) string {
	if when < 1 || when > 14 {
		return ""
	}
	return kinds()[when]
}

// whose returns the words for players, at the indexes of their numbers.
func whose() []string {
	return []string{"any", "you", "opponents"}
}

// samples returns valid triggers of all kinds, by their texts: for all players, but of the filters only those of probe.
func samples() map[string]api.Trigger {
	all := map[string]api.Trigger{}
	for when := 1; when <= 14; when++ {
		for who, word := range whose() {
			for zone := range api.ZGone {
				for text, f := range probe.Filters(zone) {
					trigger := api.Trigger{When: when}
					form := kind(when)
					if strings.Contains(form, "WHO") {
						trigger.Who = who
						form = strings.Replace(form, "WHO", word, 1)
					}
					if strings.Contains(form, "F") && zone == api.ZBattlefield || strings.Contains(form, "S") && zone == api.ZStack {
						trigger.Filter = f
						form = strings.NewReplacer("F", text, "S", text).Replace(form)
					}
					if !strings.ContainsAny(form, "FS") {
						all[form] = trigger
					}
				}
			}
		}
	}
	return all
}

// allFilters returns the filters of probe of all zones, valid and invalid.
func allFilters() []api.Filter {
	all := probe.BadFilters()
	for zone := range api.ZGone {
		for _, f := range probe.Filters(zone) {
			all = append(all, f)
		}
	}
	return all
}

// valid is the definition of valid triggers, written out field by field. It knows only the filters of probe.
func valid(trigger api.Trigger) bool {
	form := kind(trigger.When)
	who := trigger.Who == 0
	if strings.Contains(form, "WHO") {
		who = trigger.Who == 0 || trigger.Who == 1 || trigger.Who == 2
	}
	good := !slices.Contains(probe.BadFilters(), trigger.Filter)
	condition := trigger.Filter == api.Filter{}
	if strings.Contains(form, "(F)") {
		condition = good && trigger.Filter.Zone == 0
	} else if strings.Contains(form, "(S)") {
		condition = good && trigger.Filter.Zone == 5
	}
	return form != "" && who && condition
}

// checkIs compares Is(trigger) with the definition, and Text(trigger) with what follows from it.
func checkIs(t *testing.T, trigger api.Trigger) {
	t.Helper()
	want := valid(trigger)
	if got := Is(trigger); got != want {
		t.Errorf("Is(%v) = %v", trigger, got)
	}
	if got := Text(trigger); (got != "") != want {
		t.Errorf("Text(%v) = %q", trigger, got)
	}
}

// P18.1: every field of every kind, used or not, at and beyond its borders.
func TestIsOfFields(t *testing.T) {
	list := []api.Trigger{{}, {When: -1}, {When: 15}, {When: api.TCasts}}
	for _, trigger := range samples() {
		list = append(list, trigger)
	}
	for _, good := range list {
		checkIs(t, good)
		for _, n := range probe.Numbers() {
			trigger := good
			trigger.When = n
			checkIs(t, trigger)
			trigger = good
			trigger.Who = n
			checkIs(t, trigger)
		}
		for _, f := range allFilters() {
			trigger := good
			trigger.Filter = f
			checkIs(t, trigger)
		}
	}
}

// P18.1: every kind, with every combination of players and filters, used or not, valid or not.
func TestIsOfCombinations(t *testing.T) {
	for when := -2; when <= 17; when++ {
		for who := -2; who <= 4; who++ {
			checkIs(t, api.Trigger{When: when, Who: who})
			for _, f := range allFilters() {
				checkIs(t, api.Trigger{When: when, Who: who, Filter: f})
			}
		}
	}
}

func TestIsOfConstants(t *testing.T) { // P18.1
	object, stack := api.Filter{Types: api.Creature}, api.Filter{Zone: api.ZStack, Types: api.Instant}
	for _, when := range []int{api.TEnters, api.TLeaves, api.TDies, api.TAttacks, api.TBlocks, api.TDeals, api.TDealt, api.TPlaced} {
		if !Is(api.Trigger{When: when}) || !Is(api.Trigger{When: when, Filter: object}) || Is(api.Trigger{When: when, Filter: stack}) || Is(api.Trigger{When: when, Who: api.You}) {
			t.Errorf("kind %d of objects", when)
		}
	}
	for _, when := range []int{api.TDraws, api.TUpkeep, api.TEnd, api.TGains, api.TLoses} {
		for _, who := range []int{api.Anyone, api.You, api.Opponents} {
			if !Is(api.Trigger{When: when, Who: who}) || Is(api.Trigger{When: when, Who: who, Filter: object}) || Is(api.Trigger{When: when, Who: who, Filter: stack}) {
				t.Errorf("kind %d of players, %d", when, who)
			}
		}
	}
	for _, who := range []int{api.Anyone, api.You, api.Opponents} {
		if !Is(api.Trigger{When: api.TCasts, Who: who, Filter: stack}) || Is(api.Trigger{When: api.TCasts, Who: who, Filter: object}) {
			t.Errorf("kind %d, %d", api.TCasts, who)
		}
	}
}

func TestWhoText(t *testing.T) { // P18.1
	for who, word := range map[int]string{api.Anyone: "any", api.You: "you", api.Opponents: "opponents"} {
		if got := WhoText(who); got != word {
			t.Errorf("WhoText(%d) = %q, want %q", who, got, word)
		}
	}
	for _, who := range probe.Numbers() {
		if got := WhoText(who); (got == "") != (who < 0 || who > 2) {
			t.Errorf("WhoText(%d) = %q", who, got)
		}
	}
}

// P18.2: texts of all samples. P18.3: Parse inverts them.
func TestTextAndParse(t *testing.T) {
	all := samples()
	if want := 8*9 + 5*3 + 3*9; len(all) != want {
		t.Errorf("%d samples, want %d", len(all), want)
	}
	for text, trigger := range all {
		if !Is(trigger) {
			t.Errorf("Is(%v) = false", trigger)
		}
		if got := Text(trigger); got != text {
			t.Errorf("Text(%v) = %q, want %q", trigger, got, text)
		}
		if got, err := Parse(text); got != trigger || err != api.OK {
			t.Errorf("Parse(%q) = %v, %v, want %v", text, got, err, trigger)
		}
	}
}

// P18.2: the words of the constants.
func TestTextOfConstants(t *testing.T) {
	for text, trigger := range map[string]api.Trigger{
		"enters (self)":                   {When: api.TEnters, Filter: api.Filter{Self: api.OnlySelf}},
		"leaves (any)":                    {When: api.TLeaves},
		"dies (other creature)":           {When: api.TDies, Filter: api.Filter{Self: api.OnlyOther, Types: api.Creature}},
		"attacks (yours)":                 {When: api.TAttacks, Filter: api.Filter{Who: api.You}},
		"blocks (theirs)":                 {When: api.TBlocks, Filter: api.Filter{Who: api.Opponents}},
		"deals (sub:fox)":                 {When: api.TDeals, Filter: api.Filter{Sub: "fox"}},
		"dealt (with:flying tapped)":      {When: api.TDealt, Filter: api.Filter{Keys: api.Flying, Tap: api.TapTapped}},
		"placed (power>=3)":               {When: api.TPlaced, Filter: api.Filter{Power: api.Bound{Kind: api.BAtLeast, N: 3}}},
		"draws any":                       {When: api.TDraws},
		"upkeep you":                      {When: api.TUpkeep, Who: api.You},
		"end opponents":                   {When: api.TEnd, Who: api.Opponents},
		"gains any":                       {When: api.TGains},
		"loses you":                       {When: api.TLoses, Who: api.You},
		"casts any (on-stack)":            {When: api.TCasts, Filter: api.Filter{Zone: api.ZStack}},
		"casts opponents (on-stack ruby)": {When: api.TCasts, Who: api.Opponents, Filter: api.Filter{Zone: api.ZStack, Colors: api.Ruby}},
	} {
		if got := Text(trigger); got != text {
			t.Errorf("Text(%v) = %q, want %q", trigger, got, text)
		}
		if got, err := Parse(text); got != trigger || err != api.OK {
			t.Errorf("Parse(%q) = %v, %v, want %v", text, got, err, trigger)
		}
	}
}

// P18.3: over filters of all sets of types, for all kinds and players; different triggers have different texts.
func TestParseInvertsText(t *testing.T) {
	seen := map[string]api.Trigger{}
	for when := range 16 {
		for who := range 3 {
			for types := range api.AllTypes + 1 {
				for _, zone := range []int{api.ZBattlefield, api.ZStack} {
					trigger := api.Trigger{When: when, Who: who, Filter: api.Filter{Zone: zone, Types: types, Who: who}}
					text := Text(trigger)
					if text == "" {
						continue
					}
					if other, ok := seen[text]; ok {
						t.Errorf("%q is the text of %v and of %v", text, trigger, other)
					}
					seen[text] = trigger
					if back, err := Parse(text); back != trigger || err != api.OK {
						t.Errorf("Parse(%q) = %v, %v, want %v", text, back, err, trigger)
					}
				}
			}
		}
	}
	// Of the kinds of objects only those with Who 0, of the kinds of players only those with the zero filter.
	if want := 8*64 + 5 + 3*64; len(seen) != want {
		t.Errorf("%d texts, want %d", len(seen), want)
	}
}

// parseChecker returns a function that compares Parse(s) with the definition of the texts.
func parseChecker(t *testing.T) func(s string) {
	ofPlayers := regexp.MustCompile(`^(draws|upkeep|end|gains|loses) (any|you|opponents)$`)
	ofObjects := regexp.MustCompile(`(?s)^(enters|leaves|dies|attacks|blocks|deals|dealt|placed) \((.*)\)$`)
	ofSpells := regexp.MustCompile(`(?s)^casts (any|you|opponents) \((.*)\)$`)
	isFilter := func(groups []string, zone int) bool {
		if groups == nil {
			return false
		}
		f, err := filter.Parse(groups[2])
		return err == api.OK && f.Zone == zone
	}
	return func(s string) {
		t.Helper()
		isText := ofPlayers.MatchString(s) || isFilter(ofObjects.FindStringSubmatch(s), api.ZBattlefield) || isFilter(ofSpells.FindStringSubmatch(s), api.ZStack)
		trigger, err := Parse(s)
		if isText {
			if err != api.OK || !Is(trigger) || Text(trigger) != s {
				t.Errorf("Parse(%.80q) = %v, %v", s, trigger, err)
			}
		} else if err != api.ErrForm || trigger != (api.Trigger{}) {
			t.Errorf("Parse(%.80q) = %v, %v of no text", s, trigger, err)
		}
	}
}

// P18.2: every kind followed by all sequences of up to three parts, each behind a blank.
func TestParseOfParts(t *testing.T) {
	check := parseChecker(t)
	parts := []string{
		" any", " you", " opponents", " players", " (any)", " (self)", " (on-stack)", " (on-stack instant)", " (in-hand)", " (in-library)", " (in-graveyard)",
		" (in-exile)", " (you)", " ()", " (", " )", " [any]", " 0", " 1", " ", "",
	}
	for when := range 15 {
		name, _, _ := strings.Cut(kind(when), " ")
		probe.Extend(check, name, 3, parts)
	}
}

// P18.2: every text of up to five pieces of texts, and longer ones behind some beginnings.
func TestParseOfPieces(t *testing.T) {
	check := parseChecker(t)
	probe.Extend(check, "", 5, []string{"dies", "draws", "casts", "dealt", "end", " ", "you", "any", "(", ")", "on-stack", "creature"})
	for _, start := range []string{"enters ", "casts you ", "casts any ", "upkeep ", "placed (", "casts opponents (on-stack"} {
		probe.Extend(check, start, 4, []string{"(", ")", "any", "you", "opponents", "on-stack", "in-hand", "land", " ", "non-", "[", "]"})
	}
}

func TestParseNearby(t *testing.T) { // P18.2
	check := parseChecker(t)
	for text := range samples() {
		probe.Neighbours(check, text)
	}
}

func TestParseNumbers(t *testing.T) { // P18.2
	check := parseChecker(t)
	for _, n := range probe.Numbers() {
		s := strconv.Itoa(n)
		for _, start := range []string{"", "draws ", "draws any", "dies ", "dies (any) ", "dies (power=", "casts ", "casts any ", "casts any (on-stack value<="} {
			check(start + s)
			check(start + s + ")")
			check(start + s + " (any)")
			check(start + s + " (on-stack)")
		}
	}
}

func TestParseRejects(t *testing.T) { // P18.2
	long := 1 << 20
	for _, s := range []string{
		"", " ", "\n", "0", "1", "()", "(any)", "any", "you", "none", "enters", "enters ", "enters any", "enters ()", "enters(any)", "enters  (any)", " enters (any)", "enters (any) ", "enters (any)\n",
		"Enters (any)", "ENTERS (any)", "enter (any)", "entered (any)", "enters (Any)", "enters (any", "enters any)", "enters ((any))", "enters (any))", "enters [any]", "enters (any) (any)",
		"enters (any any)", "enters ( any)", "enters (any )", "enters (in-hand)", "enters (in-battlefield)", "enters (on-stack)", "enters (in-exile land)", "enters (fox)", "enters (you)",
		"enters you", "enters you (any)", "enters any (any)", "enters (any) you", "enters (creature yours)", "enters (land non-land)", "enters (power>=03)", "enters (any):", "enters (any), dies (any)",
		"enters\t(any)", "enters\n(any)", "enters (self) may", "leaves", "leaves (in-graveyard)", "leaves opponents", "dies", "dies ()", "dies any", "dies self", "dies (in-graveyard creature)", "die (self)",
		"dies (self)dies (self)", "attacks", "attacks you", "attacks you (any)", "attack (any)", "blocks", "blocks any", "block (any)", "deals", "deals you", "deals (any) you", "deals damage (any)", "dealt",
		"dealt you", "dealt opponents", "placed", "placed plus", "placed (any) plus", "put (any)", "places (any)",
		"draws", "draws ", "draws (any)", "draws ()", "draws  any", "draws any ", " draws any", "draws any\n", "draws Any", "draws anyone", "draws 0", "draws players", "draws opponent", "draws your",
		"draws yours", "draws theirs", "draws they", "draws you you", "draws you opponents", "draws youany", "draws any (any)", "draws you (in-hand)", "draw any", "drawsany", "draws(any)", "draws any 1",
		"upkeep", "upkeep ", "upkeep you ", "upkeep (any)", "upkeep (you)", "upkeeps you", "Upkeep you", "end", "end ", "end me", "end (any)", "ends you", "end you end you", "endstep you",
		"gains", "gains 1", "gains life", "gains any 1", "gain any", "gains each(any)", "loses", "loses 1", "loses (any)", "lose you", "loses you 1", "loses\x00you", "loses you\x00",
		"casts", "casts ", "casts any", "casts you", "casts you ", "casts (on-stack)", "casts you (any)", "casts you (creature)", "casts you (in-hand)", "casts you (in-graveyard instant)", "casts you ()",
		"casts you on-stack", "casts (on-stack) you", "casts  you (on-stack)", "casts you  (on-stack)", "casts you(on-stack)", "casts you (on-stack) ", "casts you (on-stack", "casts you on-stack)",
		"casts you ((on-stack))", "casts you (on-stack) (on-stack)", "casts you you (on-stack)", "casts you any (on-stack)", "casts yours (on-stack)", "casts players (on-stack)", "casts 1 (on-stack)",
		"casts you (on-stack any)", "casts you (any on-stack)", "casts you (instant on-stack)", "casts you [on-stack]", "cast you (on-stack)", "Casts you (on-stack)", "casts  (on-stack)",
		"upkeep you; upkeep you", "upkeep you, end you", "when upkeep you", "(upkeep you)", "untap you", "taps (any)", "dies (\xff)", "\x00", "\xff", "draws \xff", "dies (any)\xff",
		strings.Repeat("a", long), strings.Repeat(" ", long), strings.Repeat("(", long), strings.Repeat(")", long), strings.Repeat("dies", long), strings.Repeat("dies ", long),
		"dies" + strings.Repeat(" ", long) + "(any)", "dies (" + strings.Repeat("any ", long) + ")", "dies " + strings.Repeat("(", long) + "any" + strings.Repeat(")", long),
		"dies (any" + strings.Repeat(")", long), "draws " + strings.Repeat("you", long), "draws " + strings.Repeat("you ", long), "casts " + strings.Repeat("you ", long) + "(on-stack)",
		"casts you " + strings.Repeat("(on-stack)", long), "casts you (" + strings.Repeat("on-stack ", long) + ")", "dies (power=" + strings.Repeat("9", long) + ")", "dies (sub:" + strings.Repeat("a", long) + ")",
	} {
		if trigger, err := Parse(s); trigger != (api.Trigger{}) || err != api.ErrForm {
			t.Errorf("Parse(%.80q) = %v, %v", s, trigger, err)
		}
	}
}

func TestExamples(t *testing.T) {
	dies := api.Trigger{When: api.TDies, Filter: api.Filter{Self: api.OnlyOther, Types: api.Creature}}
	if got, err := Parse("dies (other creature)"); got != dies || err != api.OK {
		t.Errorf("dies (other creature) is %v, %v", got, err)
	}
	if got, err := Parse("upkeep you"); got != (api.Trigger{When: api.TUpkeep, Who: api.You}) || err != api.OK {
		t.Errorf("upkeep you is %v, %v", got, err)
	}
}
