package ref

import (
	"math"
	"regexp"
	"slices"
	"strconv"
	"strings"
	"testing"

	"cardgame/api"
	"cardgame/filter"
	"cardgame/probe"
)

// goodFilters returns valid filters by their texts.
func goodFilters() map[string]api.Filter {
	return map[string]api.Filter{
		"any":                  {},
		"in-hand":              {Zone: api.ZHand},
		"on-stack":             {Zone: api.ZStack},
		"yours":                {Who: api.You},
		"theirs":               {Who: api.Opponents},
		"self":                 {Self: api.OnlySelf},
		"yours creature":       {Who: api.You, Types: api.Creature},
		"theirs creature":      {Who: api.Opponents, Types: api.Creature},
		"in-graveyard theirs":  {Zone: api.ZGraveyard, Who: api.Opponents},
		"non-land non-amber":   {NotTypes: api.Land, NotColors: api.Amber},
		"ruby":                 {Colors: api.Ruby},
		"sub:you":              {Sub: "you"},
		"sub:each":             {Sub: "each"},
		"sub:target1":          {Sub: "target1"},
		"with:flying tapped":   {Keys: api.Flying, Tap: api.TapTapped},
		"power>=3":             {Power: api.Bound{Kind: api.BAtLeast, N: 3}},
		"tough<=0 value=12":    {Tough: api.Bound{Kind: api.BAtMost}, Value: api.Bound{Kind: api.BExactly, N: 12}},
		"other value<=1000000": {Self: api.OnlyOther, Value: api.Bound{Kind: api.BAtMost, N: api.MaxNum}},
	}
}

// badFilters returns filters that are not valid.
func badFilters() []api.Filter {
	return []api.Filter{
		{Zone: api.ZGone}, {Zone: -1}, {Who: 3}, {Self: -1}, {Tap: 3}, {Types: 64}, {Types: api.Land, NotTypes: api.Land}, {Colors: -1},
		{NotColors: 32}, {Sub: "land"}, {Sub: "Fox"}, {Sub: "a)"}, {Keys: api.AllKeys + 1}, {Power: api.Bound{N: 1}}, {Tough: api.Bound{Kind: 4}},
		{Value: api.Bound{Kind: api.BExactly, N: -1}}, {Value: api.Bound{Kind: api.BExactly, N: api.MaxNum + 1}},
	}
}

// samples returns all references that are valid for MaxSpecs targets, by their texts, but of the filters only those above.
func samples() map[string]api.Ref {
	all := map[string]api.Ref{
		"you": {Kind: 1}, "self": {Kind: 2}, "opponents": {Kind: 5}, "players": {Kind: 6}, "it": {Kind: 7},
		"target1": {Kind: 3, N: 1}, "target2": {Kind: 3, N: 2}, "target3": {Kind: 3, N: 3}, "target4": {Kind: 3, N: 4},
		"owner1": {Kind: 8, N: 1}, "owner2": {Kind: 8, N: 2}, "owner3": {Kind: 8, N: 3}, "owner4": {Kind: 8, N: 4},
	}
	for text, f := range goodFilters() {
		all["each("+text+")"] = api.Ref{Kind: 4, Filter: f}
	}
	return all
}

// checkIs compares Is(r, specs) with the definition, written out field by field, for many numbers of targets, and Text(r)
// with what follows from it.
func checkIs(t *testing.T, r api.Ref) {
	t.Helper()
	usesN := r.Kind == 3 || r.Kind == 8
	others := 1 <= r.Kind && r.Kind <= 8
	if r.Kind == 4 {
		others = !slices.Contains(badFilters(), r.Filter)
	} else if r.Filter != (api.Filter{}) {
		others = false
	}
	for _, specs := range probe.Numbers() {
		want := others && r.N == 0
		if usesN {
			want = others && 1 <= r.N && r.N <= 4 && r.N <= specs
		}
		if got := Is(r, specs); got != want {
			t.Errorf("Is(%v, %d) = %v", r, specs, got)
		}
		if specs == 4 && (Text(r) != "") != want {
			t.Errorf("Text(%v) = %.80q", r, Text(r))
		}
	}
}

// P16.1: every field of every kind, used or not, at and beyond its borders, for every number of targets.
func TestIsOfFields(t *testing.T) {
	list := []api.Ref{{}, {Kind: -1}, {Kind: 9}}
	for _, r := range samples() {
		list = append(list, r)
	}
	for _, good := range list {
		checkIs(t, good)
		for _, n := range probe.Numbers() {
			r := good
			r.Kind = n
			checkIs(t, r)
			r = good
			r.N = n
			checkIs(t, r)
		}
		for _, f := range goodFilters() {
			r := good
			r.Filter = f
			checkIs(t, r)
		}
		for _, f := range badFilters() {
			r := good
			r.Filter = f
			checkIs(t, r)
		}
	}
}

func TestIsOfEveryTarget(t *testing.T) { // P16.1
	for kind := -2; kind <= 10; kind++ {
		for n := -2; n <= 7; n++ {
			checkIs(t, api.Ref{Kind: kind, N: n})
			checkIs(t, api.Ref{Kind: kind, N: n, Filter: api.Filter{Who: api.You}})
			checkIs(t, api.Ref{Kind: kind, N: n, Filter: api.Filter{Who: 3}})
		}
	}
}

// P16.1: MaxSpecs bounds the number of targets.
func TestIsOfManySpecs(t *testing.T) {
	for _, kind := range []int{api.RTarget, api.RItsOwner} {
		for _, specs := range []int{5, 6, 100, 1 << 32, 1<<32 + 1, math.MaxInt} {
			if !Is(api.Ref{Kind: kind, N: 4}, specs) || Is(api.Ref{Kind: kind, N: 5}, specs) || Is(api.Ref{Kind: kind, N: specs}, specs) {
				t.Errorf("kind %d for %d targets", kind, specs)
			}
		}
		for _, specs := range []int{0, -1, -4, math.MinInt} {
			if Is(api.Ref{Kind: kind, N: 1}, specs) || Is(api.Ref{Kind: kind}, specs) || Is(api.Ref{Kind: kind, N: specs}, specs) {
				t.Errorf("kind %d for %d targets", kind, specs)
			}
		}
	}
	if !Is(api.Ref{Kind: api.RYou}, 0) || !Is(api.Ref{Kind: api.REach}, math.MinInt) {
		t.Error("references without targets need targets")
	}
}

func TestTextAndParse(t *testing.T) { // P16.2
	for text, r := range samples() {
		if got := Text(r); got != text {
			t.Errorf("Text(%v) = %q, want %q", r, got, text)
		}
		if got, err := Parse(text); got != r || err != api.OK {
			t.Errorf("Parse(%q) = %v, %v, want %v", text, got, err, r)
		}
	}
}

// P16.3: over all samples, and over filters of every zone and set of types.
func TestParseInvertsText(t *testing.T) {
	var refs []api.Ref
	for _, r := range samples() {
		refs = append(refs, r)
	}
	for zone := range api.ZGone {
		for who := range 3 {
			for types := range api.AllTypes + 1 {
				for tap := range 3 {
					f := api.Filter{Zone: zone, Who: who, Types: types, Tap: tap, Power: api.Bound{Kind: api.BExactly, N: types}}
					refs = append(refs, api.Ref{Kind: api.REach, Filter: f})
				}
			}
		}
	}
	seen := map[string]api.Ref{}
	for _, r := range refs {
		text := Text(r)
		if other, ok := seen[text]; ok {
			t.Errorf("%q is the text of %v and of %v", text, r, other)
		}
		seen[text] = r
		if back, err := Parse(text); back != r || err != api.OK {
			t.Errorf("Parse(%q) = %v, %v, want %v", text, back, err, r)
		}
	}
}

// parseChecker returns a function that compares Parse(s) with the definition of the texts.
func parseChecker(t *testing.T) func(s string) {
	simple := regexp.MustCompile(`^(you|self|opponents|players|it|(target|owner)[1-4])$`)
	each := regexp.MustCompile(`(?s)^each\((.*)\)$`)
	return func(s string) {
		t.Helper()
		isText := simple.MatchString(s)
		if parts := each.FindStringSubmatch(s); parts != nil {
			_, err := filter.Parse(parts[1])
			isText = err == api.OK
		}
		r, err := Parse(s)
		if isText {
			if err != api.OK || !Is(r, api.MaxSpecs) || Text(r) != s {
				t.Errorf("Parse(%.80q) = %v, %v", s, r, err)
			}
		} else if err != api.ErrForm || r != (api.Ref{}) {
			t.Errorf("Parse(%.80q) = %v, %v of no text", s, r, err)
		}
	}
}

// P16.2: every text of up to four pieces of texts, and longer ones behind some beginnings.
func TestParseOfPieces(t *testing.T) {
	check := parseChecker(t)
	pieces := []string{"you", "self", "target", "each", "opponents", "players", "it", "owner", "(", ")", "any", "yours", " ", "0", "1", "4", "5", "-", "s"}
	probe.Extend(check, "", 4, pieces)
	probe.Extend(check, "each(", 4, pieces)
	probe.Extend(check, "each(any", 3, pieces)
	for _, start := range []string{"target", "owner"} {
		probe.Extend(check, start, 5, []string{"0", "1", "2", "4", "5", "-", "+", " "})
	}
}

// P16.2: every text that differs in one place from that of a reference.
func TestParseNearby(t *testing.T) {
	check := parseChecker(t)
	for text := range samples() {
		probe.Neighbours(check, text)
		check("each(" + text + ")")
	}
}

func TestParseNumbers(t *testing.T) { // P16.2
	check := parseChecker(t)
	for _, n := range probe.Numbers() {
		s := strconv.Itoa(n)
		check(s)
		for _, start := range []string{"target", "owner", "you", "self", "each", "it", "opponents", "players"} {
			check(start + s)
			check(start + "0" + s)
			check(start + " " + s)
			check(start + "(" + s + ")")
			check(s + start)
		}
		check("each(" + s + ")")
	}
}

func TestParseRejects(t *testing.T) { // P16.2
	for _, s := range []string{
		"", " ", "\n", "0", "1", "(", ")", "()", "any", "yours", "theirs", "You", "YOU", "you ", " you", "you\n", "yours you", "you1", "you()", "me", "your", "youyou",
		"Self", "self1", "selfs", "self()", "selves", "source", "other", "opponent", "Opponents", "opponents1", "opponents()", "each(opponents)", "player", "player1",
		"Players", "players()", "each(players)", "It", "its", "it1", "it()", "that", "event", "itself",
		"target", "target ", "target0", "target5", "target9", "target10", "target01", "target00", "target-1", "target+1", "target 1", "target1 ", " target1", "Target1",
		"targets1", "target1s", "target(1)", "target1.0", "target1e0", "target0x1", "target1\n", "target1\x00", "target11", "target44", "target1000000", "target1000001",
		"target18446744073709551617", "target4294967297", "target١", "target１", "target1target2", "target1 target2", "target1,2", "target1-4", "targetx", "1target", "4",
		"owner", "owner0", "owner5", "owner01", "owner-1", "owner+1", "owner 1", "owner1 ", "Owner1", "owners1", "owner(1)", "owner(target1)", "ownertarget1", "its-owner1",
		"owner18446744073709551617", "owner10", "controller1", "owner1owner1",
		"each", "each(", "each()", "each)", "each any", "each(any", "eachany)", "each(any))", "each((any)", "each((any))", "each[any]", "each (any)", "each( any)", "each(any )",
		"each(any) ", " each(any)", "each(any)\n", "Each(any)", "each(Any)", "each(none)", "each(all)", "each(any any)", "each(any yours)", "each(creature yours)",
		"each(yours  creature)", "each(fox)", "each(sub:land)", "each(land non-land)", "each(power>=03)", "each(in-battlefield)", "each(any)each(any)", "each(any)1",
		"each1(any)", "1*each(any)", "each(each(any))", "each(you)", "each(target1)", "each(creature+land)", "all(any)", "every(any)", "count(any)", "each(any)\x00",
		"each(\xff)", "each(any),each(self)", "\x00", "\xff",
		"target" + strings.Repeat("1", 1<<20), "target" + strings.Repeat("0", 1<<20) + "1", "owner" + strings.Repeat("9", 1<<20), strings.Repeat("you", 1<<18),
		strings.Repeat("(", 1<<20), strings.Repeat("each(", 1<<18), "each(" + strings.Repeat("any ", 1<<18) + ")", "each(any" + strings.Repeat(")", 1<<20),
		"each" + strings.Repeat("(", 1<<20) + "any)", "each(power=" + strings.Repeat("9", 1<<20) + ")",
	} {
		if r, err := Parse(s); r != (api.Ref{}) || err != api.ErrForm {
			t.Errorf("Parse(%.80q) = %v, %v", s, r, err)
		}
	}
}

func TestExamples(t *testing.T) {
	if got, err := Parse("target1"); got != (api.Ref{Kind: api.RTarget, N: 1}) || err != api.OK {
		t.Error("target1 is no reference")
	}
	each := api.Ref{Kind: api.REach, Filter: api.Filter{Who: api.Opponents, Types: api.Creature}}
	if got, err := Parse("each(theirs creature)"); got != each || err != api.OK {
		t.Error("each(theirs creature) is no reference")
	}
}
