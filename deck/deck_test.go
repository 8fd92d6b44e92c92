package deck

import (
	"math"
	"slices"
	"strconv"
	"strings"
	"testing"

	"cardgame/api"
	"cardgame/catalog"
	"cardgame/probe"
)

// The indexes of the cards of the catalogue that the tests use. Imp and orb are tokens; spring and throne are basic.
const (
	spring = iota
	imp
	emberFox
	throne
	hall
	orb
	mill
	cards
)

// cardTexts is the text of that catalogue.
const cardTexts = `card spring
type basic land
use {tap}: mana E
token imp
color jet
type creature imp
power 1
tough 1
card ember-fox
cost 1R
type creature fox
power 2
tough 1
keys haste
card throne
cost 3
type basic unique relic
card hall
type unique land
token orb
type basic relic
card mill
cost 2
type relic
`

// catalogue returns the cards with a text.
func catalogue(text string) []api.Card {
	l, err := catalog.Parse(text)
	if err != api.OK {
		panic("no catalogue: " + text)
	}
	return l
}

// manyCards returns a valid catalogue of n cards of which the first one is basic.
func manyCards(n int) []api.Card {
	l := make([]api.Card, n)
	for i := range l {
		name := "c" + strconv.Itoa(i)
		l[i] = api.Card{Name: name + strings.Repeat("x", api.MaxName-len(name)), Line: api.Line{Types: api.Relic}}
	}
	if n > 0 {
		l[0].Line.Super = api.Basic
	}
	if at, err := catalog.Check(l); at != -1 || err != api.OK {
		panic("no catalogue")
	}
	return l
}

// allCards returns the deck list with all cards of a catalogue of n cards, each of them count times.
func allCards(n, count int) api.Deck {
	var d api.Deck
	for i := range n {
		d.Cards = append(d.Cards, i)
		d.Counts = append(d.Counts, count)
	}
	return d
}

// deckOf returns the deck list with pairs of a card and its count.
func deckOf(pairs ...int) api.Deck {
	var d api.Deck
	for i := 0; i < len(pairs); i += 2 {
		d.Cards = append(d.Cards, pairs[i])
		d.Counts = append(d.Counts, pairs[i+1])
	}
	return d
}

// same reports whether two deck lists are equal.
func same(a, b api.Deck) bool {
	return slices.Equal(a.Cards, b.Cards) && slices.Equal(a.Counts, b.Counts)
}

// decks calls check with all deck lists of up to most of these cards and counts, behind those of start.
func decks(check func(d api.Deck), start api.Deck, most int, cards, counts []int) {
	check(start)
	if most == 0 {
		return
	}
	for _, card := range cards {
		for _, count := range counts {
			next := api.Deck{Cards: append(slices.Clone(start.Cards), card), Counts: append(slices.Clone(start.Counts), count)}
			decks(check, next, most-1, cards, counts)
		}
	}
}

// wellFormed is the definition of well-formed deck lists, written out.
func wellFormed(l []api.Card, d api.Deck) bool {
	if len(d.Cards) != len(d.Counts) {
		return false
	}
	for i, card := range d.Cards {
		if card < 0 || card > len(l)-1 || l[card].Token || i > 0 && d.Cards[i-1] >= card {
			return false
		}
		if d.Counts[i] <= 0 || d.Counts[i] > 250 {
			return false
		}
	}
	return true
}

// definition is the definition of Check, written out.
func definition(l []api.Card, d api.Deck, f api.Format) api.Errno {
	if !wellFormed(l, d) {
		return api.ErrArg
	}
	size := 0
	for _, count := range d.Counts {
		size += count
	}
	if size > 250 {
		return api.ErrLong
	}
	if size < f.Least || size > f.Most {
		return api.ErrDeck
	}
	for i, card := range d.Cards {
		c := l[card]
		if c.Line.Super != api.Basic && c.Line.Super != api.Basic|api.Unique && d.Counts[i] > f.Copies {
			return api.ErrDeck
		}
		for _, name := range f.Banned {
			if name == c.Name {
				return api.ErrDeck
			}
		}
	}
	return api.OK
}

// formats returns formats, some of which allow nothing.
func formats() []api.Format {
	var all []api.Format
	for _, f := range []api.Format{
		{Most: 250, Copies: 250},
		{Most: 250, Copies: 4},
		{Least: 60, Most: 60, Copies: 4},
		{Least: 5, Most: 9, Copies: 1},
		{Least: 251, Most: 1000, Copies: 250},
		{Least: 9, Most: 5, Copies: 4},
		{Least: math.MinInt, Most: math.MaxInt, Copies: math.MaxInt},
		{Least: math.MinInt, Most: math.MaxInt},
		{Least: math.MinInt, Most: math.MaxInt, Copies: math.MinInt},
		{},
	} {
		for _, banned := range [][]string{nil, {"ember-fox"}, {"spring", "", "oak"}, {"imp", "orb"}, {"fox", "", "mill"}} {
			f.Banned = banned
			all = append(all, f)
		}
	}
	return all
}

// P23.1: all short deck lists, well-formed and not, in many formats.
func TestCheckOfLists(t *testing.T) {
	l := catalogue(cardTexts)
	all := formats()
	found := map[api.Errno]int{}
	check := func(d api.Deck) {
		for _, f := range all {
			want := definition(l, d, f)
			found[want]++
			if err := Check(l, d, f); err != want {
				t.Errorf("Check of %v in the format %v = %d, want %d", d, f, err, want)
			}
		}
	}
	decks(check, api.Deck{}, 1, probe.Numbers(), probe.Numbers())
	decks(check, deckOf(hall, 2), 1, probe.Numbers(), probe.Numbers())
	decks(check, api.Deck{}, 2, []int{-1, spring, imp, emberFox, throne, hall, orb, mill, cards}, []int{-1, 0, 1, 2, 4, 5, 60, 125, 126, 250, 251})
	decks(check, api.Deck{}, 3, []int{spring, emberFox, throne, mill}, []int{1, 4, 5, 242})
	decks(check, deckOf(spring, 1, emberFox, 1, throne, 1), 1, []int{-1, throne, hall, mill, cards}, []int{0, 1, 5, 247, 248})
	for _, err := range []api.Errno{api.OK, api.ErrArg, api.ErrLong, api.ErrDeck} {
		if found[err] < 1000 {
			t.Errorf("%d deck lists have the error %d", found[err], err)
		}
	}
}

// P23.1: deck lists that are not well-formed, in a format that would allow them.
func TestCheckOfMalformed(t *testing.T) {
	l := catalogue(cardTexts)
	for _, d := range []api.Deck{
		{Cards: []int{spring}},
		{Counts: []int{1}},
		{Cards: []int{spring, emberFox}, Counts: []int{1}},
		{Cards: []int{spring}, Counts: []int{1, 1}},
		{Cards: []int{spring}, Counts: []int{1, 0}},
		deckOf(spring, 1, spring, 1),
		deckOf(emberFox, 1, spring, 1),
		deckOf(spring, 1, mill, 1, mill, 1),
		deckOf(spring, 1, mill, 1, throne, 1),
		deckOf(-1, 1),
		deckOf(math.MinInt, 1, spring, 1),
		deckOf(cards, 1),
		deckOf(spring, 1, math.MaxInt, 1),
		deckOf(imp, 1),
		deckOf(orb, 1),
		deckOf(spring, 1, imp, 1, emberFox, 1),
		deckOf(spring, 0),
		deckOf(spring, -1),
		deckOf(spring, 251),
		deckOf(spring, math.MaxInt),
		deckOf(spring, math.MinInt),
		deckOf(spring, 1, mill, 0),
		deckOf(spring, 1, mill, 251),
	} {
		before := api.Deck{Cards: slices.Clone(d.Cards), Counts: slices.Clone(d.Counts)}
		for _, f := range []api.Format{{Least: math.MinInt, Most: math.MaxInt, Copies: math.MaxInt}, {Least: 300}, {Most: 250, Banned: []string{"spring", "imp"}}} {
			if err := Check(l, d, f); err != api.ErrArg {
				t.Errorf("Check of %v = %d", d, err)
			}
		}
		if text := Text(l, d); text != "" {
			t.Errorf("Text of %v = %q", d, text)
		}
		if !same(d, before) {
			t.Errorf("%v became %v", before, d)
		}
	}
}

// P23.1: the errors one by one, and which of several is returned.
func TestCheck(t *testing.T) {
	l := catalogue(cardTexts)
	for _, c := range []struct {
		d   api.Deck
		f   api.Format
		err api.Errno
	}{
		{deckOf(), api.Format{}, api.OK},
		{deckOf(), api.Format{Least: -5, Most: 0, Copies: -5, Banned: []string{"", "spring"}}, api.OK},
		{deckOf(), api.Format{Least: 1, Most: 60}, api.ErrDeck},
		{deckOf(), api.Format{Least: -5, Most: -1}, api.ErrDeck},
		{deckOf(spring, 20, emberFox, 4), api.Format{Least: 24, Most: 24, Copies: 4}, api.OK},
		{deckOf(spring, 20, emberFox, 4), api.Format{Least: 25, Most: 30, Copies: 4}, api.ErrDeck},
		{deckOf(spring, 20, emberFox, 4), api.Format{Least: 10, Most: 23, Copies: 4}, api.ErrDeck},
		{deckOf(spring, 20, emberFox, 4), api.Format{Least: 30, Most: 20, Copies: 4}, api.ErrDeck},
		{deckOf(spring, 20, emberFox, 5), api.Format{Least: 20, Most: 30, Copies: 4}, api.ErrDeck},
		{deckOf(spring, 20, hall, 5), api.Format{Least: 20, Most: 30, Copies: 4}, api.ErrDeck},
		{deckOf(emberFox, 4, mill, 5), api.Format{Most: 30, Copies: 4}, api.ErrDeck},
		{deckOf(emberFox, 5, mill, 4), api.Format{Most: 30, Copies: 4}, api.ErrDeck},
		{deckOf(emberFox, 4, mill, 4), api.Format{Most: 30, Copies: 4}, api.OK},
		{deckOf(spring, 1, emberFox, 1), api.Format{Most: 30}, api.ErrDeck},
		{deckOf(spring, 1, throne, 1), api.Format{Most: 30}, api.OK}, // basic cards may be there as often as the size allows
		{deckOf(spring, 10, throne, 20), api.Format{Most: 30, Copies: -1}, api.OK},
		{deckOf(spring, 250), api.Format{Least: 250, Most: 250, Copies: 1}, api.OK},
		{deckOf(spring, 20, emberFox, 4), api.Format{Most: 30, Copies: 4, Banned: []string{"ember-fox"}}, api.ErrDeck},
		{deckOf(spring, 20, emberFox, 4), api.Format{Most: 30, Copies: 4, Banned: []string{"mill", "hall", "spring"}}, api.ErrDeck}, // basic cards too
		{deckOf(spring, 20, emberFox, 4), api.Format{Most: 30, Copies: 4, Banned: []string{"mill", "imp", "hall", ""}}, api.OK},
		{deckOf(spring, 20, emberFox, 4), api.Format{Most: 30, Copies: 4, Banned: []string{"ember", "fox", "ember-fo", "ember-foxx", "Spring", "spring ", "20 spring"}}, api.OK},
		{deckOf(spring, 250, emberFox, 1), api.Format{Most: 251, Copies: 4}, api.ErrLong},
		{deckOf(spring, 249, emberFox, 1), api.Format{Most: 251, Copies: 4}, api.OK},
		{deckOf(spring, 250, mill, 250), api.Format{}, api.ErrLong}, // before ErrDeck
		{deckOf(spring, 125, mill, 126), api.Format{Most: 60, Copies: 4, Banned: []string{"mill"}}, api.ErrLong},
		{deckOf(spring, 250, imp, 1), api.Format{Most: 60, Copies: 4}, api.ErrArg}, // before ErrLong
	} {
		if err := Check(l, c.d, c.f); err != c.err {
			t.Errorf("Check of %v in the format %v = %d, want %d", c.d, c.f, err, c.err)
		}
	}
}

// P23.1: catalogues without cards, and with as many as there can be.
func TestCheckOfManyCards(t *testing.T) {
	f := api.Format{Most: 250, Copies: 1}
	for _, n := range []int{0, 1, 2, 249, 250, 251, 255, 256} {
		l := manyCards(n)
		want := api.OK
		if n > 250 {
			want = api.ErrLong
		}
		if err := Check(l, allCards(n, 1), f); err != want {
			t.Errorf("%d cards: %d", n, err)
		}
		if err := Check(l, allCards(n+1, 1), f); err != api.ErrArg {
			t.Errorf("%d cards of %d: %d", n+1, n, err)
		}
		if err := Check(l, allCards(n, 250), f); n > 1 && err != api.ErrLong {
			t.Errorf("%d cards, 250 times: %d", n, err)
		}
		if err := Check(l, deckOf(n-1, 250), f); n > 1 && err != api.ErrDeck {
			t.Errorf("the last of %d cards, 250 times: %d", n, err)
		}
	}
}

// P23.2: the size and the cards of short deck lists, well-formed and not.
func TestSizeAndList(t *testing.T) {
	for _, c := range []struct {
		d    api.Deck
		size int
		list []int
	}{
		{deckOf(), 0, nil},
		{deckOf(0, 4), 4, []int{0, 0, 0, 0}},
		{deckOf(0, 2, 2, 1, 5, 3), 6, []int{0, 0, 2, 5, 5, 5}},
		{deckOf(2, 1, 0, 2, 2, 1), 4, []int{2, 0, 0, 2}}, // in the order of the deck list
		{deckOf(-7, 1, math.MaxInt, 2, math.MinInt, 1), 4, []int{-7, math.MaxInt, math.MaxInt, math.MinInt}},
		{deckOf(0, 0, 1, 1, 2, 0), 1, []int{1}},
		{deckOf(0, -3, 1, 2, 2, math.MinInt), 2, []int{1, 1}},
		{deckOf(0, math.MinInt, 1, math.MinInt), 0, nil},
		{api.Deck{Cards: []int{3, 4}}, 0, nil},
		{api.Deck{Counts: []int{3, 4}}, 7, nil},
		{api.Deck{Cards: []int{3, 4, 5}, Counts: []int{1}}, 1, []int{3}},
		{api.Deck{Cards: []int{3}, Counts: []int{1, 2, -4}}, 3, []int{3}},
		{api.Deck{Cards: []int{0, 2, 3}, Counts: []int{2, -1}}, 2, []int{0, 0}},
	} {
		before := api.Deck{Cards: slices.Clone(c.d.Cards), Counts: slices.Clone(c.d.Counts)}
		if size := Size(c.d); size != c.size {
			t.Errorf("Size of %v = %d", c.d, size)
		}
		if list := List(c.d); !slices.Equal(list, c.list) {
			t.Errorf("List of %v = %v", c.d, list)
		}
		if !same(c.d, before) {
			t.Errorf("%v became %v", before, c.d)
		}
	}
}

// P23.2: sums at the bounds of numbers.
func TestSizeAtBounds(t *testing.T) {
	for _, c := range []struct {
		counts []int
		size   int
	}{
		{[]int{api.MaxNum - 1, 1}, api.MaxNum},
		{[]int{api.MaxNum - 1}, api.MaxNum - 1},
		{[]int{api.MaxNum, 1}, api.MaxNum},
		{[]int{api.MaxNum + 1}, api.MaxNum},
		{[]int{math.MaxInt}, api.MaxNum},
		{[]int{math.MaxInt, math.MaxInt, 2}, api.MaxNum},
		{[]int{math.MaxInt, math.MinInt}, api.MaxNum},
		{[]int{-1, math.MaxInt, -api.MaxNum}, api.MaxNum},
		{[]int{math.MinInt, math.MinInt, 5}, 5},
		{[]int{1 << 32, 1 << 32}, api.MaxNum},
		{slices.Repeat([]int{250}, 3999), 999750},
		{slices.Repeat([]int{250}, 4000), api.MaxNum},
		{slices.Repeat([]int{250}, 5000), api.MaxNum},
		{slices.Repeat([]int{1, -1}, 300), 300}, // more than MaxDeck
	} {
		for _, cards := range [][]int{nil, {1}, make([]int, len(c.counts))} {
			if size := Size(api.Deck{Cards: cards, Counts: c.counts}); size != c.size {
				t.Errorf("Size of %.80v = %d, want %d", c.counts, size, c.size)
			}
		}
	}
}

// P23.2: all short deck lists, against the definition of List, written out.
func TestListOfLists(t *testing.T) {
	decks(func(d api.Deck) {
		var want []int
		size := 0
		for i, card := range d.Cards {
			for n := 0; n < d.Counts[i]; n++ {
				size++
				if len(want) < 250 {
					want = append(want, card)
				}
			}
		}
		if list := List(d); !slices.Equal(list, want) || Size(d) != size {
			t.Errorf("%v: %v with the size %d", d, list, Size(d))
		}
	}, api.Deck{}, 3, []int{-1, 0, 7}, []int{-2, 0, 1, 3, 124, 126, 249, 250, 251, 1000})
}

// P23.2: no more than MaxDeck elements, however large the counts are.
func TestListIsBounded(t *testing.T) {
	for _, c := range []struct {
		d     api.Deck
		parts []int // pairs of a card and its count in the result
	}{
		{deckOf(3, 250), []int{3, 250}},
		{deckOf(3, 251), []int{3, 250}},
		{deckOf(3, math.MaxInt), []int{3, 250}},
		{deckOf(3, 1<<40, 4, 1<<40), []int{3, 250}},
		{deckOf(0, 249, 2, 9), []int{0, 249, 2, 1}},
		{deckOf(0, 250, 2, 1), []int{0, 250}},
		{deckOf(0, 100, 1, -100, 2, 100, 3, 100, 4, 100), []int{0, 100, 2, 100, 3, 50}},
		{deckOf(0, math.MinInt, 1, 249, 2, 0, 3, math.MaxInt), []int{1, 249, 3, 1}},
		{allCards(1000, 1), allPairs(250)},
	} {
		var want []int
		for i := 0; i < len(c.parts); i += 2 {
			want = append(want, slices.Repeat(c.parts[i:i+1], c.parts[i+1])...)
		}
		if list := List(c.d); !slices.Equal(list, want) {
			t.Errorf("List of %.80v has %d elements: %v", c.d, len(list), list)
		}
	}
}

// allPairs returns the pairs of the numbers below n with 1.
func allPairs(n int) []int {
	var l []int
	for i := range n {
		l = append(l, i, 1)
	}
	return l
}

// P23.2: a result shares no memory with the deck list.
func TestListSharesNothing(t *testing.T) {
	d := deckOf(0, 1, 2, 1, 5, 1)
	first := List(d)
	second := List(d)
	clear(first)
	if want := []int{0, 2, 5}; !slices.Equal(second, want) || !slices.Equal(d.Cards, want) {
		t.Errorf("%v and %v", second, d)
	}
}

// P23.4: decks that Check accepts.
func TestListOfDecks(t *testing.T) {
	l := catalogue(cardTexts)
	accepted := 0
	check := func(d api.Deck) {
		if Check(l, d, api.Format{Most: 250, Copies: 200}) != api.OK {
			return
		}
		accepted++
		list := List(d)
		if len(list) != Size(d) || !slices.IsSorted(list) {
			t.Errorf("List of %v with the size %d has %d elements: %v", d, Size(d), len(list), list)
		}
	}
	counts := []int{1, 2, 3, 50, 100, 125, 150, 200, 247, 248, 249, 250}
	decks(check, api.Deck{}, 3, []int{spring, emberFox, throne, hall, mill}, counts)
	decks(check, deckOf(spring, 1, emberFox, 2), 2, []int{throne, hall, mill}, counts)
	if accepted < 500 {
		t.Errorf("%d decks", accepted)
	}
}
