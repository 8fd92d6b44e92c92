package instead

import (
	"regexp"
	"slices"
	"strconv"
	"strings"
	"testing"

	"cardgame/api"
	"cardgame/filter"
	"cardgame/probe"
)

// templates returns what the texts consist of: F is a filter with ZBattlefield, WHO a word for players, and N a number.
func templates() map[string]api.Replace {
	all := map[string]api.Replace{
		"dies (F) hand":            {On: api.EvMove, Do: api.DZone, Zone: api.ZHand},
		"dies (F) library":         {On: api.EvMove, Do: api.DZone, Zone: api.ZLibrary},
		"dies (F) exile":           {On: api.EvMove, Do: api.DZone, Zone: api.ZExile},
		"enters (F) tapped":        {On: api.EvMove, Do: api.DTapped},
		"enters (F) with N plus":   {On: api.EvMove, Do: api.DCounters, Counter: api.CPlus},
		"enters (F) with N minus":  {On: api.EvMove, Do: api.DCounters, Counter: api.CMinus},
		"enters (F) with N charge": {On: api.EvMove, Do: api.DCounters, Counter: api.CCharge},
		"draw WHO add N":           {On: api.EvDraw, Do: api.DAdd},
		"draw WHO skip":            {On: api.EvDraw, Do: api.DSkip},
	}
	for _, start := range []string{"damage (F) ", "hurt WHO "} {
		all[start+"prevent"] = api.Replace{On: api.EvDamage, Do: api.DPrevent}
		all[start+"reduce N"] = api.Replace{On: api.EvDamage, Do: api.DReduce}
		all[start+"double"] = api.Replace{On: api.EvDamage, Do: api.DDouble}
		all[start+"add N"] = api.Replace{On: api.EvDamage, Do: api.DAdd}
	}
	for start, on := range map[string]int{"gain WHO ": api.EvGain, "lose WHO ": api.EvLose, "create WHO ": api.EvCreate, "put (F) ": api.EvPut} {
		all[start+"double"] = api.Replace{On: on, Do: api.DDouble}
		all[start+"add N"] = api.Replace{On: on, Do: api.DAdd}
		all[start+"skip"] = api.Replace{On: on, Do: api.DSkip}
	}
	return all
}

// samples returns valid replacement effects of all forms, by their texts, with the given filters and numbers.
func samples(filters map[string]api.Filter, numbers []int) map[string]api.Replace {
	all := map[string]api.Replace{}
	for template, r := range templates() {
		for who, word := range []string{"any", "you", "opponents"} {
			if strings.HasPrefix(template, "hurt") && word == "any" {
				continue
			}
			for text, f := range filters {
				for _, n := range numbers {
					r, s := r, strings.NewReplacer("WHO", word, "F", text, "N", strconv.Itoa(n)).Replace(template)
					if strings.Contains(template, "WHO") {
						r.Who = who
					}
					if strings.Contains(template, "F") {
						r.Filter = f
					}
					if strings.Contains(template, "N") {
						r.N = n
					}
					all[s] = r
				}
			}
		}
	}
	return all
}

// someSamples returns few valid replacement effects of each form, by their texts.
func someSamples() map[string]api.Replace {
	return samples(map[string]api.Filter{"any": {}, "theirs creature": {Who: api.Opponents, Types: api.Creature}}, []int{1, 99})
}

// allFilters returns the filters of probe of all zones, valid and invalid.
func allFilters() []api.Filter {
	all := probe.BadFilters()
	for zone := range api.ZGone {
		for _, f := range probe.Filters(zone) {
			all = append(all, f)
		}
	}
	return all
}

// isChecker returns a function that compares Is(r) with the definition, written out field by field, and Text(r) with what
// follows from it. It knows only the filters of probe, and those with types alone.
func isChecker(t *testing.T) func(r api.Replace) {
	bad := map[api.Filter]bool{}
	for _, f := range probe.BadFilters() {
		bad[f] = true
	}
	return func(r api.Replace) {
		t.Helper()
		object := r.Who == 0 && r.Filter.Zone == 0 && !bad[r.Filter]
		player := r.Filter == api.Filter{} && (r.Who == 0 || r.Who == 1 || r.Who == 2)
		bare := r.N == 0 && r.Zone == 0 && r.Counter == 0
		number := r.N > 0 && r.N < 100 && r.Zone == 0 && r.Counter == 0
		want := false
		switch r.On {
		case api.EvDamage:
			want = (object || player && r.Who != 0) &&
				(bare && (r.Do == api.DPrevent || r.Do == api.DDouble) || number && (r.Do == api.DReduce || r.Do == api.DAdd))
		case api.EvMove:
			zone := r.N == 0 && (r.Zone == 1 || r.Zone == 2 || r.Zone == 4) && r.Counter == 0
			counters := r.N > 0 && r.N < 100 && r.Zone == 0 && r.Counter >= 0 && r.Counter < 3
			want = object && (r.Do == api.DZone && zone || r.Do == api.DTapped && bare || r.Do == api.DCounters && counters)
		case api.EvDraw:
			want = player && (r.Do == api.DSkip && bare || r.Do == api.DAdd && number)
		case api.EvGain, api.EvLose, api.EvCreate:
			want = player && (bare && (r.Do == api.DDouble || r.Do == api.DSkip) || number && r.Do == api.DAdd)
		case api.EvPut:
			want = object && (bare && (r.Do == api.DDouble || r.Do == api.DSkip) || number && r.Do == api.DAdd)
		}
		if got := Is(r); got != want {
			t.Errorf("Is(%v) = %v", r, got)
		}
		if got := Text(r); (got != "") != want {
			t.Errorf("Text(%v) = %q", r, got)
		}
	}
}

// P19.1: every field of every form, used or not, at and beyond its borders.
func TestIsOfFields(t *testing.T) {
	check := isChecker(t)
	list := []api.Replace{{}, {On: -1, Do: -1}, {On: api.EvTap}, {On: api.EvTake, Do: api.DAdd, N: 1}, {On: api.EvVenom, Do: api.DSkip}}
	for _, r := range someSamples() {
		list = append(list, r)
	}
	for _, good := range list {
		check(good)
		for _, n := range probe.Numbers() {
			for i := range 6 {
				r := good
				*[]*int{&r.On, &r.Who, &r.Do, &r.N, &r.Zone, &r.Counter}[i] = n
				check(r)
			}
		}
		for _, f := range allFilters() {
			r := good
			r.Filter = f
			check(r)
		}
	}
}

// P19.1: every kind of events with every action, and combinations of the other fields.
func TestIsOfCombinations(t *testing.T) {
	check := isChecker(t)
	filters := []api.Filter{{}, {Types: api.Land}, {Zone: api.ZGraveyard}, {Types: api.Land, NotTypes: api.Land}}
	for on := -1; on <= 18; on++ {
		for do := -1; do <= 9; do++ {
			for who := -1; who <= 3; who++ {
				for zone := -1; zone <= api.ZGone; zone++ {
					for kind := -1; kind <= api.Counters; kind++ {
						for _, n := range []int{-1, 0, 1, 99, 100} {
							for _, f := range filters {
								check(api.Replace{On: on, Who: who, Filter: f, Do: do, N: n, Zone: zone, Counter: kind})
							}
						}
					}
				}
			}
		}
	}
}

// P19.1: who is hurt, and all filters, for events of objects and of players.
func TestIsOfSubjects(t *testing.T) {
	check := isChecker(t)
	for on := -1; on <= 18; on++ {
		for do := -1; do <= 9; do++ {
			for who := -2; who <= 4; who++ {
				for n := range 2 {
					for _, f := range allFilters() {
						check(api.Replace{On: on, Who: who, Filter: f, Do: do, N: n})
					}
				}
			}
		}
	}
}

func TestTextAndParse(t *testing.T) { // P19.2
	for text, r := range samples(probe.Filters(api.ZBattlefield), []int{1, 2, 9, 10, 42, 99}) {
		if !Is(r) {
			t.Errorf("%v is invalid", r)
		}
		if got := Text(r); got != text {
			t.Errorf("Text(%v) = %q, want %q", r, got, text)
		}
		if got, err := Parse(text); got != r || err != api.OK {
			t.Errorf("Parse(%q) = %v, %v, want %v", text, got, err, r)
		}
	}
}

func TestTextOfEachForm(t *testing.T) { // P19.2
	fox := api.Filter{Who: api.You, Sub: "fox"}
	for text, r := range map[string]api.Replace{
		"damage (yours sub:fox) prevent":        {On: api.EvDamage, Filter: fox, Do: api.DPrevent},
		"damage (any) reduce 1":                 {On: api.EvDamage, Do: api.DReduce, N: 1},
		"damage (self) double":                  {On: api.EvDamage, Filter: api.Filter{Self: api.OnlySelf}, Do: api.DDouble},
		"damage (other creature) add 99":        {On: api.EvDamage, Filter: api.Filter{Self: api.OnlyOther, Types: api.Creature}, Do: api.DAdd, N: 99},
		"hurt you reduce 10":                    {On: api.EvDamage, Who: api.You, Do: api.DReduce, N: 10},
		"hurt opponents double":                 {On: api.EvDamage, Who: api.Opponents, Do: api.DDouble},
		"dies (yours sub:fox) hand":             {On: api.EvMove, Filter: fox, Do: api.DZone, Zone: api.ZHand},
		"dies (any) exile":                      {On: api.EvMove, Do: api.DZone, Zone: api.ZExile},
		"enters (with:flying tapped) tapped":    {On: api.EvMove, Filter: api.Filter{Keys: api.Flying, Tap: api.TapTapped}, Do: api.DTapped},
		"enters (power>=3) with 2 minus":        {On: api.EvMove, Filter: api.Filter{Power: api.Bound{Kind: api.BAtLeast, N: 3}}, Do: api.DCounters, N: 2, Counter: api.CMinus},
		"enters (yours sub:fox) with 99 charge": {On: api.EvMove, Filter: fox, Do: api.DCounters, N: 99, Counter: api.CCharge},
		"draw opponents skip":                   {On: api.EvDraw, Who: api.Opponents, Do: api.DSkip},
		"gain any double":                       {On: api.EvGain, Do: api.DDouble},
		"lose opponents add 7":                  {On: api.EvLose, Who: api.Opponents, Do: api.DAdd, N: 7},
		"create any skip":                       {On: api.EvCreate, Do: api.DSkip},
		"put (theirs) double":                   {On: api.EvPut, Filter: api.Filter{Who: api.Opponents}, Do: api.DDouble},
	} {
		if got := Text(r); got != text {
			t.Errorf("Text(%v) = %q, want %q", r, got, text)
		}
		if got, err := Parse(text); got != r || err != api.OK {
			t.Errorf("Parse(%q) = %v, %v, want %v", text, got, err, r)
		}
	}
}

// P19.3: over all values of the fields with the zero filter, and over filters of all sets of types; different replacement
// effects have different texts.
func TestParseInvertsText(t *testing.T) {
	seen := map[string]api.Replace{}
	for on := range 18 {
		for do := range 9 {
			for who := range 3 {
				for zone := range 6 {
					for kind := range api.Counters {
						for n := range 101 {
							checkInverse(t, seen, api.Replace{On: on, Who: who, Do: do, N: n, Zone: zone, Counter: kind})
						}
						for types := 1; types <= api.AllTypes; types++ {
							for n := range 2 {
								checkInverse(t, seen, api.Replace{On: on, Who: who, Filter: api.Filter{Types: types}, Do: do, N: n, Zone: zone, Counter: kind})
							}
						}
					}
				}
			}
		}
	}
	zeroFilter := (2 + 2*99) + 2*(2+2*99) + 3 + (1 + 3*99) + 3*(1+99) + 3*3*(2+99) + (2 + 99)
	if want := zeroFilter + 63*(4+3+4+3); len(seen) != want {
		t.Errorf("%d texts, want %d", len(seen), want)
	}
}

// checkInverse checks that Parse inverts Text for r if it is valid, and that its text is not in seen yet.
func checkInverse(t *testing.T, seen map[string]api.Replace, r api.Replace) {
	t.Helper()
	text := Text(r)
	if text == "" {
		return
	}
	if other, ok := seen[text]; ok {
		t.Errorf("%q is the text of %v and of %v", text, r, other)
	}
	seen[text] = r
	if back, err := Parse(text); back != r || err != api.OK {
		t.Errorf("Parse(%q) = %v, %v, want %v", text, back, err, r)
	}
}

// parseChecker returns a function that compares Parse(s) with the definition of the texts.
func parseChecker(t *testing.T) func(s string) {
	ofPlayers := regexp.MustCompile(`^(hurt (you|opponents) (prevent|reduce N|double|add N)|draw WHO (skip|add N)|(gain|lose|create) WHO (double|add N|skip))$`)
	ofObjects := regexp.MustCompile(`(?s)^(damage|dies|enters|put) \((.*)\) (.*)$`)
	numbers := regexp.MustCompile(` [1-9][0-9]?( |$)`)
	whose := regexp.MustCompile(`^(draw|gain|lose|create) (any|you|opponents) `)
	isObjects := func(s string) bool {
		groups := ofObjects.FindStringSubmatch(s)
		if groups == nil {
			return false
		}
		action := numbers.ReplaceAllString(" "+groups[3], " N$1")
		f, err := filter.Parse(groups[2])
		return err == api.OK && f.Zone == api.ZBattlefield && slices.Contains(map[string][]string{
			"damage": {" prevent", " reduce N", " double", " add N"},
			"dies":   {" hand", " library", " exile"},
			"enters": {" tapped", " with N plus", " with N minus", " with N charge"},
			"put":    {" double", " add N", " skip"},
		}[groups[1]], action) && !strings.Contains(groups[3], "N")
	}
	isPlayers := func(s string) bool {
		shape := whose.ReplaceAllString(numbers.ReplaceAllString(s, " N$1"), "$1 WHO ")
		return ofPlayers.MatchString(shape) && !strings.Contains(s, "N") && !strings.Contains(s, "WHO")
	}
	return func(s string) {
		t.Helper()
		r, err := Parse(s)
		if isPlayers(s) || isObjects(s) {
			if err != api.OK || !Is(r) || Text(r) != s {
				t.Errorf("Parse(%.80q) = %v, %v", s, r, err)
			}
		} else if err != api.ErrForm || r != (api.Replace{}) {
			t.Errorf("Parse(%.80q) = %v, %v of no text", s, r, err)
		}
	}
}

// words returns the words that texts begin with, and some that none does.
func words() []string {
	return []string{"damage", "hurt", "dies", "enters", "draw", "gain", "lose", "create", "put", "", "take", "deals", "cast"}
}

// P19.2: every form with every subject, followed by all sequences of up to three parts, each behind a blank.
func TestParseOfParts(t *testing.T) {
	check := parseChecker(t)
	parts := []string{
		" prevent", " reduce", " double", " add", " tapped", " with", " skip", " hand", " library", " exile", " graveyard", " battlefield", " stack",
		" 0", " 1", " 99", " 100", " 01", " plus", " minus", " charge", " any", " (any)", " ", "",
	}
	for _, word := range words() {
		for _, subject := range []string{
			"", " any", " you", " opponents", " players", " (any)", " (self)", " (theirs creature)", " (on-stack)", " (in-hand)", " (you)", " ()", " (", " [any]", " ",
		} {
			most := 2
			if subject == " you" || subject == " (any)" {
				most = 3
			}
			probe.Extend(check, word+subject, most, parts)
		}
	}
}

// P19.2: every text of up to five pieces of texts, and longer ones behind some beginnings.
func TestParseOfPieces(t *testing.T) {
	check := parseChecker(t)
	probe.Extend(check, "", 5, []string{"hurt", "dies", "put", "draw", " ", "you", "(any)", "skip", "double", "add 1", "exile"})
	for _, start := range []string{"damage (any) ", "hurt you ", "dies (any) ", "enters (any) ", "enters (any) with ", "draw any ", "put (any) add ", "create you"} {
		probe.Extend(check, start, 4, []string{"with", "add", "reduce", " ", "1", "9", "0", "-", "plus", "charge", "tapped", "hand", "skip"})
	}
	for _, start := range []string{"damage ", "hurt ", "put (", "lose you"} {
		probe.Extend(check, start, 4, []string{"(", ")", "any", "you", " ", "in-hand", "land", "double", "add 2", "[", "]"})
	}
}

func TestParseNearby(t *testing.T) { // P19.2
	check := parseChecker(t)
	for text := range someSamples() {
		probe.Neighbours(check, text)
	}
}

func TestParseNumbers(t *testing.T) { // P19.2
	check := parseChecker(t)
	for _, n := range probe.Numbers() {
		s := strconv.Itoa(n)
		for template := range templates() {
			text := strings.NewReplacer("WHO", "you", "F", "yours", "N", s).Replace(template)
			for _, changed := range []string{text, text + s, text + " " + s, s + " " + text, strings.Replace(text, s, "0"+s, 1), strings.Replace(text, s, "+"+s, 1)} {
				check(changed)
			}
		}
		for _, start := range []string{"", "hurt ", "hurt you ", "dies (any) ", "enters (any) with ", "gain any add", "put (power=" + s + ") add "} {
			check(start + s)
		}
	}
}

func TestParseRejects(t *testing.T) { // P19.2
	long := 1 << 20
	for _, s := range []string{
		"", " ", "\n", "0", "1", "()", "(any)", "any", "you", "none", "prevent", "double", "skip", "tapped", "exile",
		"damage", "damage ", "damage (any)", "damage (any) ", "damage any prevent", "damage you prevent", "damage prevent", "damage () prevent", "damage (any) prevent ", " damage (any) prevent",
		"damage  (any) prevent", "damage (any)  prevent", "damage (any)prevent", "damage(any) prevent", "damage (any) prevent\n", "Damage (any) prevent", "damage (any) Prevent", "damage (Any) prevent",
		"damage (any) prevent 1", "damage (any) prevents", "damage (any) skip", "damage (any) tapped", "damage (any) with 1 plus", "damage (any) hand", "damage (any) exile", "damage (any) reduce",
		"damage (any) reduce ", "damage (any) reduce 0", "damage (any) reduce 100", "damage (any) reduce -1", "damage (any) reduce 01", "damage (any) reduce +1", "damage (any) reduce x", "damage (any) reduce 1 1",
		"damage (any) reduce 1 plus", "damage (any) reduce all", "damage (any) reduce1", "damage (any) reduce  1", "damage (any) reduce (1)", "damage (any) add", "damage (any) add 0", "damage (any) add 100",
		"damage (any) add 1.5", "damage (any) add 1e1", "damage (any) add 0x1", "damage (any) add 4294967297", "damage (any) add 18446744073709551617", "damage (any) double 2", "damage (any) double double",
		"damage (any any) double", "damage ((any)) double", "damage (any)) double", "damage (any double", "damage any) double", "damage [any] double", "damage (any) (any) double", "damage (on-stack) double",
		"damage (in-hand) prevent", "damage (in-graveyard creature) prevent", "damage (in-battlefield) prevent", "damage (fox) prevent", "damage (you) prevent", "damage (creature yours) prevent",
		"damage (any) prevent; damage (any) prevent", "damage (any) prevent, hurt you prevent", "damages (any) prevent", "deals (any) prevent", "damage (any) you prevent", "damage you (any) prevent",
		"hurt", "hurt ", "hurt you", "hurt you ", "hurt any prevent", "hurt any double", "hurt any add 1", "hurt (any) prevent", "hurt (you) prevent", "hurt players prevent", "hurt each prevent", "hurt 1 prevent",
		"hurt yours prevent", "hurt theirs prevent", "hurt opponent prevent", "hurt you prevent ", "hurt  you prevent", "hurt you  prevent", "hurt youprevent", "hurt you you prevent", "hurt you opponents prevent",
		"hurt you skip", "hurt you tapped", "hurt you exile", "hurt you with 1 plus", "hurt you reduce", "hurt you reduce 0", "hurt you reduce 100", "hurt you add 0", "hurt you add 100", "hurts you prevent",
		"Hurt you prevent", "hurt You prevent", "hurt prevent", "hurt prevent you", "hurt you (any) prevent", "hurt\tyou prevent", "hurt you\nprevent", "hurt you prevent\x00", "\x00hurt you prevent",
		"dies", "dies ", "dies (any)", "dies (any) ", "dies (any) graveyard", "dies (any) battlefield", "dies (any) stack", "dies (any) gone", "dies (any) tapped", "dies (any) skip", "dies (any) prevent",
		"dies (any) double", "dies (any) add 1", "dies (any) with 1 plus", "dies (any) zone", "dies (any) zone hand", "dies (any) 1", "dies (any) exile 1", "dies (any) hand library", "dies (any) Hand", "dies (any) hands",
		"dies (any) hand ", "dies (any)  hand", "dies (any)hand", "dies any hand", "dies you hand", "dies hand", "dies (in-hand) hand", "dies (in-graveyard) exile", "dies () hand", "die (any) hand", "dies (any) (hand)",
		"enters", "enters ", "enters (any)", "enters (any) ", "enters (any) untapped", "enters (any) tap", "enters (any) tapped ", "enters (any) tapped tapped", "enters (any) tapped with 1 plus", "enters (any) tapped 1",
		"enters you tapped", "enters any tapped", "enters tapped", "enters (in-hand) tapped", "enters (any) hand", "enters (any) exile", "enters (any) skip", "enters (any) prevent", "enters (any) double",
		"enters (any) add 1", "enters (any) reduce 1", "enters (any) with", "enters (any) with ", "enters (any) with 1", "enters (any) with 1 ", "enters (any) with plus", "enters (any) with 0 plus", "enters (any) with 100 plus",
		"enters (any) with -1 plus", "enters (any) with 01 plus", "enters (any) with 1 x", "enters (any) with 1 venom", "enters (any) with 1 Plus", "enters (any) with 1 plus ", "enters (any) with 1 plus 1",
		"enters (any) with 1 plus plus", "enters (any) with 1 plus minus", "enters (any) with 1  plus", "enters (any) with  1 plus", "enters (any)  with 1 plus", "enters (any) with 1plus", "enters (any) with1 plus",
		"enters (any) with plus 1", "enters (any) with x plus", "enters (any) 1 plus", "enters (any) with 1 plus, 1 charge", "enters (any) with (1 plus)", "enter (any) tapped", "enters (self) with three plus",
		"draw", "draw ", "draw any", "draw any ", "draw you double", "draw any double", "draw opponents double", "draw you prevent", "draw you reduce 1", "draw you tapped", "draw you exile", "draw you with 1 plus", "draw you add",
		"draw you add 0", "draw you add 100", "draw you add 01", "draw you skip 1", "draw you skip ", "draw you  skip", "draw  you skip", "draw (any) skip", "draw (you) skip", "draw skip", "draw players skip", "draws you skip",
		"draw you skip skip", "gain", "gain you", "gain you ", "gain you prevent", "gain you reduce 1", "gain (any) skip", "gain (any) double", "gain skip", "gain you tapped", "gain you hand", "gain you add", "gain you add 0",
		"gain you add 100", "gain you double 1", "gain players double", "gains you double", "gain life double", "lose", "lose you prevent", "lose you reduce 1", "lose (any) skip", "lose you add 100", "lose you with 1 plus",
		"lose you skip ", "loses you skip", "lose them skip", "create", "create you", "create you prevent", "create (any) double", "create fox double", "create you add 0", "create you add 100", "create you fox", "creates you skip",
		"create you tapped", "create you double skip", "put", "put ", "put (any)", "put (any) ", "put (any) prevent", "put (any) reduce 1", "put (any) tapped", "put (any) exile", "put (any) with 1 plus", "put (any) plus double",
		"put plus (any) double", "put (any) add", "put (any) add 0", "put (any) add 100", "put (any) add 1 plus", "put (any) skip ", "put you skip", "put any skip", "put opponents double", "put skip", "put (in-hand) skip",
		"put (on-stack) double", "put () skip", "puts (any) skip", "take (any) skip", "take (any) double", "tap (any) skip", "untap (any) skip", "cast you skip", "attack (any) skip", "block (any) skip", "upkeep you skip",
		"end you skip", "venom you add 1", "shuffle you skip", "move (any) exile", "leaves (any) exile", "mill you add 1", "discard you skip", "(hurt you prevent)", "instead hurt you prevent", "hurt you: prevent", "hurt you, prevent",
		"dies (\xff) hand", "\xff", "hurt \xff prevent", "hurt you \xff", "enters (any) with 1 \xff", "enters (any) with \xff plus",
		strings.Repeat("a", long), strings.Repeat(" ", long), strings.Repeat("(", long), strings.Repeat(")", long), strings.Repeat("hurt", long), strings.Repeat("hurt ", long), "hurt" + strings.Repeat(" ", long) + "you prevent",
		"hurt you" + strings.Repeat(" ", long) + "prevent", "hurt " + strings.Repeat("you ", long) + "prevent", "hurt you " + strings.Repeat("prevent", long), "hurt you prevent" + strings.Repeat(" ", long),
		"hurt you add " + strings.Repeat("9", long), "hurt you add " + strings.Repeat("0", long) + "1", "dies (" + strings.Repeat("any ", long) + ") hand", "dies " + strings.Repeat("(", long) + "any" + strings.Repeat(")", long) + " hand",
		"dies (any" + strings.Repeat(")", long) + " hand", "dies " + strings.Repeat("(any) ", long) + "hand", "dies (any) " + strings.Repeat("hand", long), "dies (sub:" + strings.Repeat("a", long) + ") hand",
		"enters (any) with " + strings.Repeat("1 ", long) + "plus", "enters (any) with 1 " + strings.Repeat("plus", long), "enters (any) " + strings.Repeat("with ", long) + "1 plus", "put (any) " + strings.Repeat("add ", long) + "1",
	} {
		if r, err := Parse(s); r != (api.Replace{}) || err != api.ErrForm {
			t.Errorf("Parse(%.80q) = %v, %v", s, r, err)
		}
	}
}

func TestExamples(t *testing.T) {
	hurt := api.Replace{On: api.EvDamage, Who: api.You, Do: api.DPrevent}
	if got, err := Parse("hurt you prevent"); got != hurt || err != api.OK || !Is(hurt) {
		t.Errorf("hurt you prevent is %v, %v", got, err)
	}
	enters := api.Replace{On: api.EvMove, Filter: api.Filter{Self: api.OnlySelf}, Do: api.DCounters, N: 3, Counter: api.CPlus}
	if got, err := Parse("enters (self) with 3 plus"); got != enters || err != api.OK || !Is(enters) {
		t.Errorf("enters (self) with 3 plus is %v, %v", got, err)
	}
}
