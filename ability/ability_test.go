package ability

import (
	"math"
	"slices"
	"strings"
	"testing"

	"cardgame/api"
	"cardgame/effect"
	"cardgame/filter"
	"cardgame/instead"
	"cardgame/mod"
	"cardgame/probe"
	"cardgame/trigger"
)

// goodMods returns lists of modifications by their texts.
func goodMods() map[string][]api.Mod {
	blank := api.Mod{Kind: api.MDropAll}
	return map[string][]api.Mod{
		"blank":                         {blank},
		"pt+=1/1, keys+=haste":          {{Kind: api.MAddPT, N: 1, M: 1}, {Kind: api.MAddKeys, N: api.Haste}},
		"pt=count(yours land), control": {{Kind: api.MCountPT, Filter: api.Filter{Who: api.You, Types: api.Land}}, {Kind: api.MControl}},
		strings.Repeat("blank, ", 5) + "sub+=fox": append(slices.Repeat([]api.Mod{blank}, 5), api.Mod{Kind: api.MAddSub, Sub: "fox"}),
	}
}

// badMods returns lists of modifications that no ability has, none of them empty.
func badMods() [][]api.Mod {
	blank := []api.Mod{{Kind: api.MDropAll}}
	return [][]api.Mod{{{}}, {{Kind: 15}}, {{Kind: api.MDropAll, N: 1}}, {blank[0], {}}, {{}, blank[0]}, slices.Repeat(blank, 7), slices.Repeat(blank, 50)}
}

// goodPrices returns valid prices by their texts.
func goodPrices() map[string]api.Price {
	full := api.Cost{Generic: 99, Color: [5]int{9, 9, 9, 9, 9}}
	return map[string]api.Price{
		"{0}":                 {},
		"{1}":                 {Mana: api.Cost{Generic: 1}},
		"{tap}":               {Tap: true},
		"{sacrifice}":         {Sacrifice: true},
		"{life 1}":            {Life: 1},
		"{life 99}":           {Life: 99},
		"{1R, tap}":           {Mana: api.Cost{Generic: 1, Color: [5]int{3: 1}}, Tap: true},
		"{AACE, sacrifice}":   {Mana: api.Cost{Color: [5]int{2, 1, 0, 0, 1}}, Sacrifice: true},
		"{J, life 10}":        {Mana: api.Cost{Color: [5]int{2: 1}}, Life: 10},
		"{tap, sacrifice}":    {Tap: true, Sacrifice: true},
		"{tap, life 2}":       {Tap: true, Life: 2},
		"{sacrifice, life 9}": {Sacrifice: true, Life: 9},
		"{99AAAAAAAAACCCCCCCCCJJJJJJJJJRRRRRRRRREEEEEEEEE, tap, sacrifice, life 42}": {Mana: full, Tap: true, Sacrifice: true, Life: 42},
	}
}

// badPrices returns prices that are not valid.
func badPrices() []api.Price {
	all := []api.Price{{Life: -1}, {Life: 100}, {Life: math.MinInt}, {Life: math.MaxInt, Tap: true}, {Mana: api.Cost{Generic: 1}, Life: 100}}
	for _, c := range []api.Cost{
		{X: 1}, {X: 2}, {X: 3}, {X: -1}, {X: 1, Generic: 1}, {Generic: 100}, {Generic: -1}, {Color: [5]int{10}}, {Color: [5]int{4: 10}}, {Color: [5]int{2: -1}}, {Generic: 1, Color: [5]int{1: 100}},
	} {
		all = append(all, api.Price{Mana: c}, api.Price{Mana: c, Tap: true, Sacrifice: true, Life: 5})
	}
	return all
}

// goodTriggers returns valid triggers by their texts.
func goodTriggers() map[string]api.Trigger {
	return map[string]api.Trigger{
		"dies (self)":              {When: api.TDies, Filter: api.Filter{Self: api.OnlySelf}},
		"enters (yours sub:may)":   {When: api.TEnters, Filter: api.Filter{Who: api.You, Sub: "may"}},
		"upkeep any":               {When: api.TUpkeep},
		"gains you":                {When: api.TGains, Who: api.You},
		"loses opponents":          {When: api.TLoses, Who: api.Opponents},
		"casts any (on-stack)":     {When: api.TCasts, Filter: api.Filter{Zone: api.ZStack}},
		"casts you (on-stack jet)": {When: api.TCasts, Who: api.You, Filter: api.Filter{Zone: api.ZStack, Colors: api.Jet}},
	}
}

// badTriggers returns triggers that are not valid, none of them zero.
func badTriggers() []api.Trigger {
	return []api.Trigger{{When: -1}, {When: 15}, {Who: 1}, {When: api.TDies, Who: 1}, {When: api.TUpkeep, Who: 3}, {When: api.TCasts}, {Filter: api.Filter{Who: 1}}, {When: api.TDies, Filter: api.Filter{Zone: api.ZHand}}}
}

// goodReplaces returns valid replacement effects by their texts.
func goodReplaces() map[string]api.Replace {
	return map[string]api.Replace{
		"hurt you prevent":            {On: api.EvDamage, Who: api.You, Do: api.DPrevent},
		"damage (any) reduce 3":       {On: api.EvDamage, Do: api.DReduce, N: 3},
		"enters (self) with 3 charge": {On: api.EvMove, Filter: api.Filter{Self: api.OnlySelf}, Do: api.DCounters, N: 3, Counter: api.CCharge},
		"dies (creature) exile":       {On: api.EvMove, Filter: api.Filter{Types: api.Creature}, Do: api.DZone, Zone: api.ZExile},
		"draw any skip":               {On: api.EvDraw, Do: api.DSkip},
	}
}

// badReplaces returns replacement effects that are not valid, none of them zero.
func badReplaces() []api.Replace {
	return []api.Replace{{On: api.EvDamage}, {Do: api.DPrevent}, {On: api.EvDraw, Do: api.DDouble}, {Who: 1}, {Zone: 1}, {Counter: 1}, {N: 1}, {Filter: api.Filter{Who: 1}}, {On: api.EvTap, Do: api.DSkip}}
}

// goodSpecs returns valid specifications by their texts.
func goodSpecs() map[string]api.Spec {
	all := map[string]api.Spec{"[player]": {Player: true}}
	for _, zone := range []int{api.ZBattlefield, api.ZGraveyard, api.ZStack} {
		for text, f := range probe.Filters(zone) {
			all["[("+text+")]"] = api.Spec{Object: true, Filter: f}
			all["[player or ("+text+")]"] = api.Spec{Player: true, Object: true, Filter: f}
		}
	}
	return all
}

// badSpecs returns specifications that are not valid.
func badSpecs() []api.Spec {
	var all []api.Spec
	for _, f := range probe.BadFilters() {
		all = append(all, api.Spec{Object: true, Filter: f}, api.Spec{Player: true, Object: true, Filter: f}, api.Spec{Player: true, Filter: f}, api.Spec{Filter: f})
	}
	for zone := range api.ZGone {
		for _, f := range probe.Filters(zone) {
			all = append(all, api.Spec{Filter: f})
			if f != (api.Filter{}) {
				all = append(all, api.Spec{Player: true, Filter: f})
			}
			if zone == api.ZHand || zone == api.ZLibrary || zone == api.ZExile {
				all = append(all, api.Spec{Object: true, Filter: f}, api.Spec{Player: true, Object: true, Filter: f})
			}
		}
	}
	return all
}

// goodTargets returns lists of specifications by their texts, each text behind a blank if the list is not empty.
func goodTargets() map[string][]api.Spec {
	one := api.Spec{Player: true}
	two := api.Spec{Object: true, Filter: api.Filter{Who: api.You, Sub: "fox"}}
	three := api.Spec{Player: true, Object: true, Filter: api.Filter{Types: api.Creature}}
	four := api.Spec{Object: true, Filter: api.Filter{Zone: api.ZStack, Types: api.Ritual}}
	return map[string][]api.Spec{
		"":                                 nil,
		" [player]":                        {one},
		" [(yours sub:fox)]":               {two},
		" [player] [player]":               {one, one},
		" [player or (creature)] [player]": {three, one},
		" [(on-stack ritual)] [player] [(yours sub:fox)]":                        {four, one, two},
		" [player] [(yours sub:fox)] [player or (creature)] [(on-stack ritual)]": {one, two, three, four},
	}
}

// A list of effects, and the number of targets that an ability needs to have it.
type list struct {
	effects []api.Effect
	targets int
}

// goodEffects returns lists of effects by their texts.
func goodEffects() map[string]list {
	win := api.Effect{Op: api.OpWin}
	mana := api.Effect{Op: api.OpMana, Pool: api.Pool{4: 1}}
	hit := func(n int) api.Effect {
		return api.Effect{Op: api.OpDamage, Ref: api.Ref{Kind: api.RTarget, N: n}, Amount: api.Amount{N: 3}}
	}
	owner := api.Effect{Op: api.OpDefeat, Ref: api.Ref{Kind: api.RItsOwner, N: 2}}
	change := api.Effect{Op: api.OpMod, Ref: api.Ref{Kind: api.REach, Filter: api.Filter{Sub: "fox"}}, Mods: []api.Mod{{Kind: api.MControl}, {Kind: api.MDropAll}}}
	return map[string]list{
		"win":                                {[]api.Effect{win}, 0},
		"mana R":                             {[]api.Effect{mana}, 0},
		"mana R; mana R":                     {[]api.Effect{mana, mana}, 0},
		"mana R; win":                        {[]api.Effect{mana, win}, 0},
		"win; mana R":                        {[]api.Effect{win, mana}, 0},
		"damage target1 3":                   {[]api.Effect{hit(1)}, 1},
		"win; defeat owner2":                 {[]api.Effect{win, owner}, 2},
		"damage target3 3; win":              {[]api.Effect{hit(3), win}, 3},
		"damage target4 3; damage target1 3": {[]api.Effect{hit(4), hit(1)}, 4},
		"mod each(sub:fox) [control, blank]": {[]api.Effect{change}, 0},
		strings.Repeat("win; ", 7) + "damage target2 3": {append(slices.Repeat([]api.Effect{win}, 7), hit(2)), 2},
	}
}

// badEffects returns lists of effects that no ability has, none of them empty.
func badEffects() [][]api.Effect {
	win := api.Effect{Op: api.OpWin}
	far := api.Effect{Op: api.OpTap, Ref: api.Ref{Kind: api.RTarget, N: 5}}
	return [][]api.Effect{{{}}, {{Op: 27}}, {{Op: api.OpWin, Zone: 1}}, {win, {}}, {{}, win}, {far}, {win, far}, {{Op: api.OpMana}}, slices.Repeat([]api.Effect{win}, 9), slices.Repeat([]api.Effect{win}, 100)}
}

// tailsOf returns abilities with all lists of specifications and effects that fit each other, by what their texts have
// behind the other words.
func tailsOf(a api.Ability) map[string]api.Ability {
	all := map[string]api.Ability{}
	for specs, l := range goodTargets() {
		for effects, e := range goodEffects() {
			if e.targets <= len(l) {
				a.Specs, a.Effects = l, e.effects
				all[specs+": "+effects] = a
			}
		}
	}
	return all
}

// samples returns abilities of all kinds with all combinations of the good values of their fields, by their texts.
func samples() map[string]api.Ability {
	all := map[string]api.Ability{}
	addTails := func(start string, a api.Ability) {
		for tail, a := range tailsOf(a) {
			all[start+tail] = a
		}
	}
	for text, f := range probe.Filters(api.ZBattlefield) {
		for mods, l := range goodMods() {
			all["static ("+text+") "+mods] = api.Ability{Kind: api.AbStatic, Filter: f, Mods: l}
		}
	}
	addTails("spell", api.Ability{Kind: api.AbSpell})
	for text, p := range goodPrices() {
		addTails("use "+text, api.Ability{Kind: api.AbActivated, Price: p})
		addTails("use "+text+" slow", api.Ability{Kind: api.AbActivated, Price: p, Slow: true})
	}
	for text, c := range goodTriggers() {
		addTails("when "+text, api.Ability{Kind: api.AbTriggered, Trigger: c})
		addTails("when "+text+" may", api.Ability{Kind: api.AbTriggered, Trigger: c, May: true})
	}
	for text, r := range goodReplaces() {
		all["replace "+text] = api.Ability{Kind: api.AbReplace, Replace: r}
	}
	return all
}

// few returns abilities of all kinds, by their texts.
func few() map[string]api.Ability {
	some := map[string]api.Ability{}
	all := samples()
	for _, text := range []string{
		"static (any) blank", "static (yours) pt+=1/1, keys+=haste", "static (sub:win with:flying) pt=count(yours land), control",
		"spell: win", "spell [player]: damage target1 3", "spell [player] [player]: win; defeat owner2", "spell [(yours sub:fox)]: mod each(sub:fox) [control, blank]",
		"spell [(on-stack ritual)] [player] [(yours sub:fox)]: damage target3 3; win",
		"spell [player] [(yours sub:fox)] [player or (creature)] [(on-stack ritual)]: damage target4 3; damage target1 3",
		"use {0}: win", "use {tap}: mana R", "use {tap}: mana R; mana R", "use {tap} slow: mana R", "use {1R, tap}: mana R; win", "use {tap, life 2} [player]: mana R",
		"use {AACE, sacrifice} slow [player or (creature)] [player]: damage target1 3", "use {sacrifice, life 9} slow: win; mana R",
		"when dies (self): win", "when dies (self) may: mana R", "when upkeep any may [player]: damage target1 3", "when enters (yours sub:may) may: win",
		"when casts you (on-stack jet) [(yours sub:fox)]: damage target1 3", "when casts any (on-stack) may [player] [player]: win; defeat owner2",
		"replace hurt you prevent", "replace damage (any) reduce 3", "replace enters (self) with 3 charge",
	} {
		some[text] = all[text]
	}
	return some
}

// sameEffect reports whether both effects are equal.
func sameEffect(a, b api.Effect) bool {
	return a.Op == b.Op && a.Ref == b.Ref && a.Amount == b.Amount && a.Counter == b.Counter && a.Zone == b.Zone && a.Card == b.Card &&
		a.Filter == b.Filter && a.Pool == b.Pool && slices.Equal(a.Mods, b.Mods)
}

// same reports whether both abilities are equal.
func same(a, b api.Ability) bool {
	return a.Kind == b.Kind && a.Filter == b.Filter && slices.Equal(a.Mods, b.Mods) && a.Price == b.Price && a.Slow == b.Slow &&
		a.Trigger == b.Trigger && a.May == b.May && slices.Equal(a.Specs, b.Specs) && slices.EqualFunc(a.Effects, b.Effects, sameEffect) &&
		a.Replace == b.Replace
}

// validSpec is the definition of specifications. It knows all filters but those that neither are in probe nor are zero.
func validSpec(s api.Spec) bool {
	object := !slices.Contains(probe.BadFilters(), s.Filter) && (s.Filter.Zone == 0 || s.Filter.Zone == 3 || s.Filter.Zone == 5)
	return s.Object && object || s.Player && !s.Object && s.Filter == api.Filter{}
}

// validPrice is the definition of prices.
func validPrice(p api.Price) bool {
	for _, n := range p.Mana.Color {
		if n < 0 || n > 9 {
			return false
		}
	}
	return p.Mana.Generic >= 0 && p.Mana.Generic < 100 && p.Mana.X == 0 && p.Life >= 0 && p.Life < 100
}

// validTail is the definition of the specifications and effects of an ability.
func validTail(a api.Ability) bool {
	for _, s := range a.Specs {
		if !validSpec(s) {
			return false
		}
	}
	for _, e := range a.Effects {
		if !effect.Is(e, len(a.Specs)) {
			return false
		}
	}
	return len(a.Specs) < 5 && len(a.Effects) > 0 && len(a.Effects) < 9
}

// valid is the definition of abilities, written out kind by kind.
func valid(a api.Ability) bool {
	noStatic := a.Filter == api.Filter{} && len(a.Mods) == 0
	noUse := a.Price == api.Price{} && !a.Slow
	noWhen := a.Trigger == api.Trigger{} && !a.May
	noTail := len(a.Specs) == 0 && len(a.Effects) == 0
	noReplace := a.Replace == api.Replace{}
	switch a.Kind {
	case 1:
		return filter.Is(a.Filter) && a.Filter.Zone == 0 && mod.ListText(a.Mods) != "" && noUse && noWhen && noTail && noReplace
	case 2:
		return validTail(a) && noStatic && noUse && noWhen && noReplace
	case 3:
		return validPrice(a.Price) && validTail(a) && noStatic && noWhen && noReplace
	case 4:
		return trigger.Is(a.Trigger) && validTail(a) && noStatic && noUse && noReplace
	case 5:
		return instead.Is(a.Replace) && noStatic && noUse && noWhen && noTail
	}
	return false
}

// validMana is the definition of mana abilities.
func validMana(a api.Ability) bool {
	ok := valid(a) && a.Kind == 3 && len(a.Specs) == 0
	for _, e := range a.Effects {
		ok = ok && e.Op == 14
	}
	return ok
}

// shortened returns a with lists that are short enough for a message.
func shortened(a api.Ability) api.Ability {
	a.Mods, a.Specs, a.Effects = a.Mods[:min(len(a.Mods), 8)], a.Specs[:min(len(a.Specs), 8)], a.Effects[:min(len(a.Effects), 9)]
	return a
}

// checkIs compares Is and IsMana with the definitions, and Text with what follows from them.
func checkIs(t *testing.T, a api.Ability) {
	t.Helper()
	want := valid(a)
	if got := Is(a); got != want {
		t.Errorf("Is(%v) = %v", shortened(a), got)
	}
	if got := Text(a); (got != "") != want {
		t.Errorf("Text(%v) = %.80q", shortened(a), got)
	}
	if got := IsMana(a); got != validMana(a) {
		t.Errorf("IsMana(%v) = %v", shortened(a), got)
	}
}

// variants returns a with each field replaced, one at a time, by good and bad values of every kind.
func variants(a api.Ability) []api.Ability {
	all := []api.Ability{a}
	add := func(change func(a *api.Ability)) {
		other := a
		change(&other)
		all = append(all, other)
	}
	add(func(a *api.Ability) { a.Slow = !a.Slow })
	add(func(a *api.Ability) { a.May = !a.May })
	for _, n := range probe.Numbers() {
		add(func(a *api.Ability) { a.Kind = n })
		add(func(a *api.Ability) { a.Price.Life = n })
		add(func(a *api.Ability) { a.Price.Mana.Generic = n })
		add(func(a *api.Ability) { a.Price.Mana.X = n })
		add(func(a *api.Ability) { a.Price.Mana.Color[n&3] = n })
	}
	for _, f := range probe.BadFilters() {
		add(func(a *api.Ability) { a.Filter = f })
	}
	for zone := range api.ZGone {
		for _, f := range probe.Filters(zone) {
			add(func(a *api.Ability) { a.Filter = f })
		}
	}
	addParts(add)
	addTails(add)
	return all
}

// addParts calls add with changes of the fields that are no lists, and of Mods.
func addParts(add func(change func(a *api.Ability))) {
	for _, l := range goodMods() {
		add(func(a *api.Ability) { a.Mods = l })
	}
	for _, l := range append(badMods(), nil, []api.Mod{}) {
		add(func(a *api.Ability) { a.Mods = l })
	}
	for _, p := range goodPrices() {
		add(func(a *api.Ability) { a.Price = p })
	}
	for _, p := range badPrices() {
		add(func(a *api.Ability) { a.Price = p })
	}
	for _, c := range goodTriggers() {
		add(func(a *api.Ability) { a.Trigger = c })
	}
	for _, c := range append(badTriggers(), api.Trigger{}) {
		add(func(a *api.Ability) { a.Trigger = c })
	}
	for _, r := range goodReplaces() {
		add(func(a *api.Ability) { a.Replace = r })
	}
	for _, r := range append(badReplaces(), api.Replace{}) {
		add(func(a *api.Ability) { a.Replace = r })
	}
}

// addTails calls add with changes of Specs and Effects.
func addTails(add func(change func(a *api.Ability))) {
	specs := [][]api.Spec{nil, {}, slices.Repeat([]api.Spec{{Player: true}}, 5), slices.Repeat([]api.Spec{{Player: true}}, 100), {{Player: true}, {}}, {{}, {Player: true}}}
	for _, l := range goodTargets() {
		specs = append(specs, l)
	}
	effects := append(badEffects(), nil, []api.Effect{})
	for _, l := range goodEffects() {
		effects = append(effects, l.effects)
	}
	for _, l := range specs {
		add(func(a *api.Ability) { a.Specs = l })
		for _, e := range effects {
			add(func(a *api.Ability) { a.Specs, a.Effects = l, e })
		}
	}
	for _, e := range effects {
		add(func(a *api.Ability) { a.Effects = e })
	}
	for _, s := range badSpecs() {
		add(func(a *api.Ability) { a.Specs = []api.Spec{s} })
	}
	for _, s := range goodSpecs() {
		add(func(a *api.Ability) { a.Specs = []api.Spec{s} })
	}
}

// P20.1: every field of every kind, used or not, at and beyond its borders.
func TestIsOfFields(t *testing.T) {
	bases := []api.Ability{{}, {Kind: -1}, {Kind: 1}, {Kind: 2}, {Kind: 3}, {Kind: 4}, {Kind: 5}, {Kind: 6}, {Kind: math.MaxInt}}
	for _, a := range few() {
		bases = append(bases, a)
	}
	for _, a := range bases {
		for _, other := range variants(a) {
			checkIs(t, other)
		}
	}
}

// P20.1: the fields of every kind with the kinds of all others.
func TestIsOfOtherKinds(t *testing.T) {
	for _, a := range samples() {
		for kind := -1; kind <= 7; kind++ {
			a.Kind = kind
			checkIs(t, a)
		}
	}
}

// P20.1: an effect may refer to the targets that there are, and to no others.
func TestIsOfTargets(t *testing.T) {
	for kind := range 7 {
		for specs := range 7 {
			for n := -1; n <= 6; n++ {
				for _, ref := range []int{api.RTarget, api.RItsOwner} {
					a := api.Ability{Kind: kind, Specs: slices.Repeat([]api.Spec{{Player: true}}, specs)}
					a.Effects = []api.Effect{{Op: api.OpWin}, {Op: api.OpDefeat, Ref: api.Ref{Kind: ref, N: n}}}
					if kind == api.AbTriggered {
						a.Trigger = api.Trigger{When: api.TUpkeep}
					}
					want := kind >= 2 && kind <= 4 && specs <= 4 && n >= 1 && n <= specs
					if got := Is(a); got != want {
						t.Errorf("kind %d with %d targets, of which it uses number %d: %v", kind, specs, n, got)
					}
				}
			}
		}
	}
}

// P20.1: a mana ability is activated, has no targets, and has no effects but OpMana.
func TestIsMana(t *testing.T) {
	for text, want := range map[string]bool{
		"use {tap}: mana R": true, "use {0}: mana 99AAAAAAAAA": true, "use {2, tap, sacrifice, life 3} slow: mana A; mana C; mana J": true,
		"use {tap}: " + strings.Repeat("mana 1; ", 7) + "mana E": true,
		"use {tap}: mana R; win":                                 false, "use {tap}: win; mana R": false, "use {tap}: win": false, "use {tap}: mana R; gain you 1; mana R": false,
		"use {tap} [player]: mana R": false, "use {tap} slow [(creature)]: mana R": false, "spell: mana R": false, "when upkeep you: mana R": false,
		"when dies (self) may: mana 1": false, "static (any) blank": false, "replace hurt you prevent": false,
	} {
		a, err := Parse(text)
		if err != api.OK || IsMana(a) != want {
			t.Errorf("%q: %v, %v", text, IsMana(a), err)
		}
	}
	mana := []api.Effect{{Op: api.OpMana, Pool: api.Pool{1}}}
	for _, a := range []api.Ability{
		{}, {Kind: api.AbActivated}, {Kind: api.AbActivated, Effects: []api.Effect{}}, {Kind: api.AbActivated, Effects: []api.Effect{{Op: api.OpMana}}}, {Effects: mana},
		{Kind: api.AbActivated, Effects: mana, May: true}, {Kind: api.AbActivated, Effects: mana, Price: api.Price{Life: 100}}, {Kind: api.AbActivated, Effects: slices.Repeat(mana, 9)},
		{Kind: api.AbActivated, Effects: mana, Filter: api.Filter{Who: 1}}, {Kind: api.AbStatic, Effects: mana}, {Kind: 6, Effects: mana},
	} {
		if IsMana(a) {
			t.Errorf("%v is a mana ability", a)
		}
	}
}

func TestTextAndParse(t *testing.T) { // P20.2
	for text, a := range samples() {
		if !Is(a) {
			t.Errorf("%v is invalid", a)
		}
		if got := Text(a); got != text {
			t.Errorf("Text(%v) = %q, want %q", a, got, text)
		}
		if got, err := Parse(text); !same(got, a) || err != api.OK {
			t.Errorf("Parse(%q) = %v, %v, want %v", text, got, err, a)
		}
	}
}

func TestSpecText(t *testing.T) { // P20.3
	for text, s := range goodSpecs() {
		if got := SpecText(s); got != text {
			t.Errorf("SpecText(%v) = %q, want %q", s, got, text)
		}
		want := api.Ability{Kind: api.AbSpell, Specs: []api.Spec{s}, Effects: []api.Effect{{Op: api.OpWin}}}
		if got, err := Parse("spell " + text + ": win"); !same(got, want) || err != api.OK {
			t.Errorf("Parse of %q = %v, %v", text, got, err)
		}
	}
	for _, s := range append(badSpecs(), api.Spec{}) {
		if got := SpecText(s); got != "" {
			t.Errorf("SpecText(%v) = %q", s, got)
		}
	}
}

func TestPriceText(t *testing.T) { // P20.3
	for text, p := range goodPrices() {
		if got := PriceText(p); got != text {
			t.Errorf("PriceText(%v) = %q, want %q", p, got, text)
		}
	}
	for _, p := range badPrices() {
		if got := PriceText(p); got != "" {
			t.Errorf("PriceText(%v) = %q", p, got)
		}
	}
	for _, good := range goodPrices() {
		for _, n := range probe.Numbers() {
			for i := range 8 {
				p := good
				*[]*int{&p.Life, &p.Mana.Generic, &p.Mana.X, &p.Mana.Color[0], &p.Mana.Color[1], &p.Mana.Color[2], &p.Mana.Color[3], &p.Mana.Color[4]}[i] = n
				if got := PriceText(p); (got != "") != validPrice(p) {
					t.Errorf("PriceText(%v) = %q", p, got)
				}
			}
		}
	}
}
