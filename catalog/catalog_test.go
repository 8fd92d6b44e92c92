package catalog

import (
	"slices"
	"strconv"
	"strings"
	"testing"

	"cardgame/ability"
	"cardgame/api"
	"cardgame/card"
	"cardgame/probe"
)

// The texts of cards. Fox, ritual, altar and greedy create a token named imp, greedy and maker one named orb.
const (
	imp     = "token imp\ncolor jet\ntype creature imp\npower 1\ntough 1\n"
	orb     = "token orb\ntype relic\n"
	spring  = "card spring\ntype basic land\nuse {tap}: mana E\n"
	fox     = "card fox\ncost 1R\ntype creature fox\npower 2\ntough 1\nkeys haste\nwhen enters (self): create you imp 1\n"
	ritual  = "card call\ncost 2J\ntype ritual\nspell [player]: draw you 1; create target1 imp 3\n"
	altar   = "card altar\ncost 2\ntype relic\nstatic (yours creature) pt+=1/1\nuse {1}: win\nuse {2, tap} slow: gain you 1; create you imp x\n"
	greedy  = "card greedy\ncost 5\ntype charm\nwhen upkeep you: create you imp 1; create you orb 1\n"
	selfish = "card selfish\ncost 3\ntype creature\npower 1\ntough 1\nwhen dies (self): create you selfish 1\n"
	breeder = "token breeder\ntype creature\npower 0\ntough 1\nuse {tap}: create you breeder 1\n"
	cardImp = "card imp\ncost J\ntype creature imp\npower 1\ntough 1\n"
	maker   = "token imp\ntype charm\nuse {1}: create you orb 1\n"
)

// parsed returns the cards with the texts.
func parsed(texts ...string) []api.Card {
	var l []api.Card
	for _, s := range texts {
		c, err := card.Parse(s)
		if err != api.OK {
			panic("no card: " + s)
		}
		l = append(l, c)
	}
	return l
}

// pieces returns cards, valid and not.
func pieces() []api.Card {
	all := parsed(imp, spring, fox, ritual, greedy, selfish, breeder, cardImp, maker)
	badImp, badFox := parsed(imp)[0], parsed(fox)[0]
	badImp.Power = 100
	badFox.Token = true
	return append(all, badImp, badFox, api.Card{})
}

// definition is the definition of Check, written out.
func definition(l []api.Card) (int, api.Errno) {
	if len(l) > 256 {
		return -1, api.ErrLong
	}
	for i, c := range l {
		if !card.Is(c) {
			return i, api.ErrCard
		}
		for j := range i {
			if l[j].Name == c.Name {
				return i, api.ErrTwice
			}
		}
		for _, a := range c.Abilities {
			for _, e := range a.Effects {
				known := false
				for _, other := range l {
					known = known || other.Token && other.Name == e.Card
				}
				if e.Op == api.OpCreate && !known {
					return i, api.ErrNone
				}
			}
		}
	}
	return -1, api.OK
}

// sequences calls check with all lists of up to most of the cards, behind those of start.
func sequences(check func(l []api.Card), start []api.Card, most int, all []api.Card) {
	check(start)
	if most == 0 {
		return
	}
	for _, c := range all {
		sequences(check, append(start[:len(start):len(start)], c), most-1, all)
	}
}

// same reports whether two lists are equal, element by element.
func same(a, b []api.Card) bool {
	return slices.EqualFunc(a, b, card.Same)
}

// names returns the names of the cards of l, for the messages of tests.
func names(l []api.Card) string {
	var s []string
	for _, c := range l {
		s = append(s, c.Name)
	}
	return strings.Join(s, " ")
}

// P22.1: all short lists of cards, valid and not.
func TestCheckOfLists(t *testing.T) {
	found := map[api.Errno]int{}
	sequences(func(l []api.Card) {
		at, err := definition(l)
		found[err]++
		if gotAt, gotErr := Check(l); gotAt != at || gotErr != err {
			t.Errorf("Check of %s = %d, %d, want %d, %d", names(l), gotAt, gotErr, at, err)
		}
	}, nil, 4, pieces())
	for _, err := range []api.Errno{api.OK, api.ErrCard, api.ErrTwice, api.ErrNone} {
		if found[err] < 100 {
			t.Errorf("%d lists have the error %d", found[err], err)
		}
	}
}

// P22.1: the errors one by one, and which of several is returned.
func TestCheck(t *testing.T) {
	for _, c := range []struct {
		texts []string
		at    int
		err   api.Errno
	}{
		{nil, -1, api.OK},
		{[]string{spring}, -1, api.OK},
		{[]string{imp}, -1, api.OK},
		{[]string{fox, imp}, -1, api.OK}, // the token may be behind the card
		{[]string{imp, fox}, -1, api.OK},
		{[]string{fox, ritual, altar, imp, spring}, -1, api.OK},
		{[]string{greedy, orb, imp}, -1, api.OK},
		{[]string{breeder}, -1, api.OK}, // a token may create itself
		{[]string{fox}, 0, api.ErrNone},
		{[]string{spring, ritual}, 1, api.ErrNone},  // in the second effect
		{[]string{orb, altar, fox}, 1, api.ErrNone}, // in the third ability
		{[]string{greedy, imp}, 0, api.ErrNone},
		{[]string{greedy, orb}, 0, api.ErrNone},
		{[]string{selfish}, 0, api.ErrNone}, // it is no token
		{[]string{spring, fox, cardImp}, 1, api.ErrNone},
		{[]string{maker}, 0, api.ErrNone},
		{[]string{spring, spring}, 1, api.ErrTwice},
		{[]string{spring, imp, fox, imp, spring}, 3, api.ErrTwice},
		{[]string{fox, imp, fox, fox}, 2, api.ErrTwice},
		{[]string{imp, cardImp}, 1, api.ErrTwice}, // a name is one of a card or one of a token
		{[]string{cardImp, imp}, 1, api.ErrTwice},
		{[]string{fox, cardImp, imp}, 2, api.ErrTwice}, // there is a token named imp, if not as the first imp
		{[]string{imp, maker}, 1, api.ErrTwice},        // before ErrNone
		{[]string{fox, spring, spring}, 0, api.ErrNone},
		{[]string{spring, spring, fox}, 1, api.ErrTwice},
	} {
		if at, err := Check(parsed(c.texts...)); at != c.at || err != c.err {
			t.Errorf("Check of %q = %d, %d, want %d, %d", c.texts, at, err, c.at, c.err)
		}
	}
}

func TestCheckOfInvalidCards(t *testing.T) { // P22.1
	good := parsed(spring, fox, imp, altar, ritual)
	for i := range good {
		for _, change := range []func(c *api.Card){
			func(c *api.Card) { c.Name = "" },
			func(c *api.Card) { c.Name = "Fox" },
			func(c *api.Card) { c.Power = -1 },
			func(c *api.Card) { c.Line.Types = 0 },
			func(c *api.Card) { c.Keys = -1 },
			func(c *api.Card) { c.Name, c.Color = good[0].Name, 32 }, // before ErrTwice
			func(c *api.Card) { c.Abilities = slices.Repeat(parsed(fox)[0].Abilities, 9) },
			func(c *api.Card) { c.Abilities = slices.Repeat(parsed(selfish)[0].Abilities, 100) }, // before ErrNone
			func(c *api.Card) { *c = api.Card{} },
			func(c *api.Card) { c.Name = strings.Repeat("a", 1<<20) },
		} {
			l := slices.Clone(good)
			change(&l[i])
			at, err := definition(l)
			if gotAt, gotErr := Check(l); gotAt != at || gotErr != err || err == api.OK {
				t.Errorf("Check of %.200s = %d, %d, want %d, %d", names(l), gotAt, gotErr, at, err)
			}
			if got := Text(l); got != "" {
				t.Errorf("Text of %.200s = %.80q", names(l), got)
			}
		}
	}
	// An invalid token is a card with Token true, for the cards before it.
	l := parsed(fox, imp)
	l[1].Color = -1
	if at, err := Check(l); at != 1 || err != api.ErrCard {
		t.Errorf("%d, %d before an invalid token", at, err)
	}
}

// P22.1: an effect that creates a token, at all places of a card.
func TestCheckOfPlaces(t *testing.T) {
	win, create := api.Effect{Op: api.OpWin}, parsed(fox)[0].Abilities[0].Effects[0]
	for i := range api.MaxAbilities {
		for j := range api.MaxEffects {
			for _, kind := range []int{api.AbActivated, api.AbTriggered} {
				c := api.Card{Name: "a", Line: api.Line{Types: api.Relic}}
				for range api.MaxAbilities {
					a := api.Ability{Kind: kind, Effects: slices.Repeat([]api.Effect{win}, api.MaxEffects)}
					if kind == api.AbTriggered {
						a.Trigger.When = api.TUpkeep
					}
					c.Abilities = append(c.Abilities, a)
				}
				c.Abilities[i].Effects[j] = create
				if at, err := Check([]api.Card{c}); at != 0 || err != api.ErrNone {
					t.Errorf("ability %d, effect %d: %d, %d", i, j, at, err)
				}
				if at, err := Check(append(parsed(imp), c)); at != -1 || err != api.OK {
					t.Errorf("ability %d, effect %d, with the token: %d, %d", i, j, at, err)
				}
			}
		}
	}
}

// P22.1: names of cards in texts of other operations are none of tokens.
func TestCheckOfOtherEffects(t *testing.T) {
	for _, s := range []string{
		"damage self 1", "draw you 1", "copy self", "become self", "move self hand", "put self plus 1", "mod self [blank]", "mana E", "sacrifice you 1 (sub:imp)", "scry 1", "search (in-library)", "turn", "win", "tap self", "mill you 1",
	} {
		a, err := ability.Parse("use {1}: " + s)
		if err != api.OK {
			t.Fatalf("%q is no effect", s)
		}
		l := parsed(orb)
		l[0].Abilities = []api.Ability{a}
		if at, err := Check(l); at != -1 || err != api.OK {
			t.Errorf("Check of a card with %q = %d, %d", s, at, err)
		}
	}
}

// manyCards returns n valid cards with different names.
func manyCards(n int) []api.Card {
	var l []api.Card
	for i := range n {
		c := parsed(orb)[0]
		c.Name = "a" + strconv.Itoa(i)
		l = append(l, c)
	}
	return l
}

// P22.1: lists with about MaxCards cards.
func TestCheckOfLongLists(t *testing.T) {
	for _, n := range []int{1, 100, 255, 256} {
		l := manyCards(n)
		if at, err := Check(l); at != -1 || err != api.OK || strings.Count(Text(l), "token ") != n {
			t.Errorf("%d cards: %d, %d", n, at, err)
		}
		for _, c := range []struct {
			last api.Card
			err  api.Errno
		}{{api.Card{}, api.ErrCard}, {l[0], api.ErrTwice}, {parsed(fox)[0], api.ErrNone}} {
			if n == 1 && c.err == api.ErrTwice {
				continue // there is no other card
			}
			l[n-1] = c.last
			if at, err := Check(l); at != n-1 || err != c.err || Text(l) != "" {
				t.Errorf("%d cards, the last of which is wrong: %d, %d, want %d", n, at, err, c.err)
			}
		}
	}
	for _, n := range []int{257, 258, 1000} {
		for _, change := range []func(l []api.Card){
			func(l []api.Card) {}, func(l []api.Card) { l[0] = api.Card{} }, func(l []api.Card) { l[1] = l[0] }, func(l []api.Card) { l[2] = parsed(fox)[0] }, func(l []api.Card) { clear(l) },
		} {
			l := manyCards(n)
			change(l)
			if at, err := Check(l); at != -1 || err != api.ErrLong || Text(l) != "" {
				t.Errorf("%d cards: %d, %d", n, at, err)
			}
		}
	}
}

func TestFind(t *testing.T) { // P22.1
	l := parsed(imp, spring, fox, imp, cardImp, fox)
	for name, want := range map[string]int{
		"imp": 0, "spring": 1, "fox": 2, "": -1, "im": -1, "imps": -1, "Imp": -1, " imp": -1, "imp ": -1, "imp\n": -1, "card imp": -1, "orb": -1, "\xff": -1, strings.Repeat("a", 1<<20): -1,
	} {
		if got := Find(l, name); got != want {
			t.Errorf("Find of %.40q = %d, want %d", name, got, want)
		}
		if got := Find(nil, name); got != -1 {
			t.Errorf("Find of %.40q in nothing = %d", name, got)
		}
	}
	many := manyCards(2000)
	for i, c := range many {
		if got := Find(many, c.Name); got != i {
			t.Errorf("Find of %q = %d", c.Name, got)
		}
	}
	// Cards that are not valid have names too.
	wrong := []api.Card{{Name: "A b", Power: -1}, {}, {Name: "A b"}, {Name: "\xff"}}
	for name, want := range map[string]int{"A b": 0, "": 1, "\xff": 3, "a b": -1} {
		if got := Find(wrong, name); got != want {
			t.Errorf("Find of %q = %d, want %d", name, got, want)
		}
	}
}

// P22.2: the text of all short lists.
func TestTextOfLists(t *testing.T) {
	sequences(func(l []api.Card) {
		want := ""
		if _, err := definition(l); err == api.OK {
			for _, c := range l {
				want += card.Text(c)
			}
		}
		if got := Text(l); got != want {
			t.Errorf("Text of %s = %q, want %q", names(l), got, want)
		}
	}, nil, 4, pieces())
}

func TestText(t *testing.T) { // P22.2
	for _, texts := range [][]string{nil, {imp}, {imp, fox}, {fox, imp}, {spring, fox, ritual, altar, greedy, breeder, orb, imp}} {
		if got, want := Text(parsed(texts...)), strings.Join(texts, ""); got != want {
			t.Errorf("Text = %q, want %q", got, want)
		}
	}
	if got := Text([]api.Card{}); got != "" {
		t.Errorf("the text of no cards is %q", got)
	}
}

// P22.1 and P22.2: no function changes its arguments.
func TestChangesNothing(t *testing.T) {
	for _, texts := range [][]string{{spring, fox, ritual, altar, imp, greedy, orb}, {fox, fox}, {imp, spring}} {
		l := parsed(texts...)
		Check(l)
		Text(l)
		Find(l, "imp")
		if !same(l, parsed(texts...)) {
			t.Errorf("the cards are changed: %v", l)
		}
	}
}

func TestExamples(t *testing.T) {
	for _, l := range [][]api.Card{nil, {}} {
		if at, err := Check(l); at != -1 || err != api.OK || Text(l) != "" {
			t.Errorf("the empty catalogue: %d, %d, %q", at, err, Text(l))
		}
	}
	if l, err := Parse(""); len(l) != 0 || err != api.OK {
		t.Errorf("the empty text: %v, %d", l, err)
	}
}

// P22.1: numbers at the borders of the ranges of fields.
func TestCheckOfNumbers(t *testing.T) {
	for i := range 4 {
		for _, n := range probe.Numbers() {
			l := parsed(spring, fox, imp)
			*[]*int{&l[1].Power, &l[1].Keys, &l[1].Color, &l[1].Abilities[0].Effects[0].Op}[i] = n
			at, err := definition(l)
			if gotAt, gotErr := Check(l); gotAt != at || gotErr != err {
				t.Errorf("Check with %d = %d, %d, want %d, %d", n, gotAt, gotErr, at, err)
			}
		}
	}
}
