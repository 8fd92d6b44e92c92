package deck

import (
	"math"
	"regexp"
	"slices"
	"strconv"
	"strings"
	"testing"

	"cardgame/api"
	"cardgame/probe"
)

// textDefinition returns the text of a well-formed deck list, written out.
func textDefinition(l []api.Card, d api.Deck) string {
	s := ""
	for i, card := range d.Cards {
		s += strconv.Itoa(d.Counts[i]) + " " + l[card].Name + "\n"
	}
	return s
}

// parseDefinition returns the definition of Parse for a catalogue, written out.
func parseDefinition(l []api.Card) func(s string) (api.Deck, api.Errno) {
	line := regexp.MustCompile(`^([1-9][0-9]{0,2}) ([a-z0-9-]+)\n`)
	return func(s string) (api.Deck, api.Errno) {
		if len(s) > 65536 {
			return api.Deck{}, api.ErrLong
		}
		var d api.Deck
		for s != "" {
			parts := line.FindStringSubmatch(s)
			if parts == nil {
				return api.Deck{}, api.ErrForm
			}
			count, _ := strconv.Atoi(parts[1])
			d.Counts = append(d.Counts, count)
			d.Cards = append(d.Cards, slices.IndexFunc(l, func(c api.Card) bool { return c.Name == parts[2] }))
			s = s[len(parts[0]):]
		}
		if !wellFormed(l, d) {
			return api.Deck{}, api.ErrForm
		}
		return d, api.OK
	}
}

// parseChecker returns a function that compares Parse(l, s) with the definition, and the text of a result with s. found counts
// the errors.
func parseChecker(t *testing.T, l []api.Card, found map[api.Errno]int) func(s string) {
	define := parseDefinition(l)
	return func(s string) {
		t.Helper()
		want, wantErr := define(s)
		found[wantErr]++
		d, err := Parse(l, s)
		if err != wantErr || !same(d, want) {
			t.Errorf("Parse(%.200q) = %v, %d, want %v, %d", s, d, err, want, wantErr)
		}
		if err == api.OK && Text(l, d) != s {
			t.Errorf("Parse(%.200q) is a deck list with the text %.200q", s, Text(l, d))
		}
	}
}

// P23.3: the texts of deck lists.
func TestText(t *testing.T) {
	l := catalogue(cardTexts)
	for _, c := range []struct {
		d    api.Deck
		text string
	}{
		{deckOf(), ""},
		{deckOf(emberFox, 4), "4 ember-fox\n"},
		{deckOf(spring, 20, emberFox, 4), "20 spring\n4 ember-fox\n"},
		{deckOf(spring, 250, throne, 1, hall, 10, mill, 100), "250 spring\n1 throne\n10 hall\n100 mill\n"}, // more than MaxDeck
	} {
		if text := Text(l, c.d); text != c.text {
			t.Errorf("Text of %v = %q", c.d, text)
		}
	}
	if text := Text(nil, deckOf()); text != "" {
		t.Errorf("the empty deck list: %q", text)
	}
	if text := Text(nil, deckOf(0, 1)); text != "" {
		t.Errorf("a deck list for the empty catalogue: %q", text)
	}
}

// P23.3 and P23.4: all short deck lists, well-formed and not.
func TestParseInvertsText(t *testing.T) {
	l := catalogue(cardTexts)
	seen := map[string]bool{}
	check := func(d api.Deck) {
		text := Text(l, d)
		if !wellFormed(l, d) {
			if text != "" {
				t.Errorf("Text of %v = %q", d, text)
			}
			return
		}
		if want := textDefinition(l, d); text != want {
			t.Errorf("Text of %v = %q, want %q", d, text, want)
		}
		seen[text] = true
		if back, err := Parse(l, text); err != api.OK || !same(back, d) {
			t.Errorf("Parse(%q) = %v, %d, want %v", text, back, err, d)
		}
	}
	decks(check, api.Deck{}, 1, probe.Numbers(), probe.Numbers())
	decks(check, deckOf(hall, 2), 1, probe.Numbers(), probe.Numbers())
	decks(check, api.Deck{}, 3, []int{-1, spring, imp, emberFox, throne, hall, mill, cards}, []int{-1, 0, 1, 10, 250, 251})
	decks(check, deckOf(spring, 4, emberFox, 250), 3, []int{throne, hall, orb, mill}, []int{0, 1, 99, 250, 251})
	if len(seen) < 500 {
		t.Errorf("%d texts", len(seen))
	}
}

// P23.3: all concatenations of a few lines, and of pieces of lines.
func TestParseOfPieces(t *testing.T) {
	found := map[api.Errno]int{}
	check := parseChecker(t, catalogue(cardTexts), found)
	probe.Extend(check, "", 4, []string{"1 spring\n", "250 ember-fox\n", "4 throne\n", "60 hall\n", "9 mill\n", "1 imp\n", "0 mill\n", "251 mill\n", "2 oak\n", "1  mill\n", "\n"})
	probe.Extend(check, "", 6, []string{"1", "0", "-", " ", "\n", "mill", "imp", "hall"})
	probe.Extend(check, "1 hall\n", 5, []string{"1", "5", "+", " ", "\n", "mill", "spring", "("})
	if found[api.OK] < 50 || found[api.ErrForm] < 1000 {
		t.Errorf("errors: %v", found)
	}
}

func TestParseNearby(t *testing.T) { // P23.3
	check := parseChecker(t, catalogue(cardTexts), map[api.Errno]int{})
	for _, text := range []string{"4 ember-fox\n", "20 spring\n4 ember-fox\n", "1 spring\n10 throne\n250 hall\n99 mill\n"} {
		probe.Neighbours(check, text)
		for _, end := range []string{"\r\n", "\n\n", " \n", "\n ", ", ", "; ", "", "\r", "\v", "\t\n", "\x00"} {
			check(strings.ReplaceAll(text, "\n", end))
		}
		for _, blank := range []string{"", "  ", "\t", "x ", " x ", "-", "\n", "\u00a0", "(", " (", ") ", "[ ", "] "} {
			check(strings.ReplaceAll(text, " ", blank))
			check(strings.Replace(text, " ", blank, 1))
		}
	}
}

// P23.3: all counts that are near a bound, and other ways to write them.
func TestParseOfCounts(t *testing.T) {
	found := map[api.Errno]int{}
	check := parseChecker(t, catalogue(cardTexts), found)
	for _, n := range probe.Numbers() {
		count := strconv.Itoa(n)
		for _, s := range []string{count, "+" + count, "0" + count, "00" + count, " " + count, count + " ", "-" + count, count + ".", count + ".0", count + "x", "x" + count, "0x" + count, count + "e0", count + "_0", "_" + count, "(" + count + ")", "(" + count, count + ")"} {
			check(s + " mill\n")
			check("1 spring\n" + s + " mill\n")
			check(s + " spring\n1 mill\n")
		}
	}
	if found[api.OK] < 400 || found[api.ErrForm] < 10000 {
		t.Errorf("errors: %v", found)
	}
	for _, count := range []string{"", "one", "I", "١", "1e2", "0b1", "1,0", "1 1", strings.Repeat("0", 100) + "1", strings.Repeat("9", 100), "18446744073709551617", "NaN"} {
		check(count + " mill\n")
		check(count + "mill\n")
	}
}

func TestParseErrors(t *testing.T) { // P23.3
	l := catalogue(cardTexts)
	for _, c := range []struct {
		text string
		err  api.Errno
	}{
		{"", api.OK},
		{"4 ember-fox\n", api.OK},
		{"20 spring\n4 ember-fox\n", api.OK},
		{"250 spring\n250 ember-fox\n250 throne\n250 hall\n250 mill\n", api.OK}, // more than MaxDeck
		{"4 ember-fox", api.ErrForm},
		{"20 spring\n4 ember-fox", api.ErrForm},
		{"20 spring4 ember-fox\n", api.ErrForm},
		{"\n", api.ErrForm},
		{" \n", api.ErrForm},
		{"\n4 ember-fox\n", api.ErrForm},
		{"20 spring\n\n4 ember-fox\n", api.ErrForm},
		{"4 ember-fox\n\n", api.ErrForm},
		{"4\n", api.ErrForm},
		{"4 \n", api.ErrForm},
		{"ember-fox\n", api.ErrForm},
		{" ember-fox\n", api.ErrForm},
		{"ember-fox 4\n", api.ErrForm},
		{"4 ember-fox \n", api.ErrForm},
		{" 4 ember-fox\n", api.ErrForm},
		{"4  ember-fox\n", api.ErrForm},
		{"4\tember-fox\n", api.ErrForm},
		{"4 ember fox\n", api.ErrForm},
		{"4 Ember-fox\n", api.ErrForm},
		{"4 ember\n", api.ErrForm},
		{"4 ember-foxx\n", api.ErrForm},
		{"4x ember-fox\n", api.ErrForm},
		{"04 ember-fox\n", api.ErrForm},
		{"+4 ember-fox\n", api.ErrForm},
		{"0 ember-fox\n", api.ErrForm},
		{"-4 ember-fox\n", api.ErrForm},
		{"251 ember-fox\n", api.ErrForm},
		{"1000001 ember-fox\n", api.ErrForm},
		{"4 oak\n", api.ErrForm},
		{"1 imp\n", api.ErrForm}, // a token
		{"1 spring\n1 imp\n1 ember-fox\n", api.ErrForm},
		{"1 orb\n", api.ErrForm},
		{"4 ember-fox\n1 spring\n", api.ErrForm}, // in another order than in the catalogue
		{"1 spring\n1 mill\n1 hall\n", api.ErrForm},
		{"1 spring\n1 spring\n", api.ErrForm},
		{"1 spring\n4 ember-fox\n4 ember-fox\n", api.ErrForm},
		{"1 spring\n4 ember-fox\n1 spring\n", api.ErrForm},
		{strings.Repeat("x", api.MaxText), api.ErrForm},
		{strings.Repeat("\n", api.MaxText), api.ErrForm},
		{strings.Repeat("1 mill\n", api.MaxText/7), api.ErrForm},
		{"1 " + strings.Repeat("a", api.MaxText-3) + "\n", api.ErrForm},
		{strings.Repeat("x", api.MaxText+1), api.ErrLong},
		{strings.Repeat("\n", api.MaxText+1), api.ErrLong},
		{strings.Repeat("1 mill\n", api.MaxText/7+1), api.ErrLong},
		{strings.Repeat("\xff", 1<<24), api.ErrLong},
	} {
		d, err := Parse(l, c.text)
		if err != c.err || err != api.OK && (len(d.Cards) != 0 || len(d.Counts) != 0) || err == api.OK && Text(l, d) != c.text {
			t.Errorf("Parse(%.80q) with %d bytes = %v, %d, want %d", c.text, len(c.text), d, err, c.err)
		}
	}
}

// P23.3: the empty catalogue.
func TestParseWithoutCards(t *testing.T) {
	check := parseChecker(t, nil, map[api.Errno]int{})
	for _, s := range []string{"", "\n", "1 spring\n", "1 \n", "0 \n", " ", "1", strings.Repeat("\n", api.MaxText), strings.Repeat("\n", api.MaxText+1)} {
		check(s)
	}
}

// P23.3 and P23.4: catalogues with as many cards as there can be, with the longest names and the greatest counts.
func TestParseOfManyCards(t *testing.T) {
	for _, n := range []int{1, 2, 255, 256} {
		l := manyCards(n)
		check := parseChecker(t, l, map[api.Errno]int{})
		d := allCards(n, 250)
		text := Text(l, d)
		if text != textDefinition(l, d) || len(text) != n*(len("250 \n")+api.MaxName) {
			t.Errorf("%d cards: a text with %d bytes", n, len(text))
		}
		if back, err := Parse(l, text); err != api.OK || !same(back, d) {
			t.Errorf("%d cards: %v, %d", n, back, err)
		}
		check(text + "1 " + l[n-1].Name + "\n")
		check(text + text)
		check("1 " + l[n-1].Name + "\n")
		check("1 " + l[n-1].Name + "\n1 " + l[0].Name + "\n")
	}
}

// P23.3: neither results nor arguments share memory, and arguments stay as they are.
func TestParseSharesNothing(t *testing.T) {
	l := catalogue(cardTexts)
	text := "20 spring\n4 ember-fox\n1 mill\n"
	a, _ := Parse(l, text)
	b, _ := Parse(l, text)
	want := deckOf(spring, 20, emberFox, 4, mill, 1)
	if !same(a, want) || !same(b, want) {
		t.Fatalf("%v and %v", a, b)
	}
	clear(a.Cards)
	clear(a.Counts)
	if !same(b, want) || Text(l, b) != text {
		t.Errorf("deck lists share memory: %v", b)
	}
	b.Cards = append(b.Cards[:1], math.MaxInt)
	if !slices.Equal(b.Counts, want.Counts) {
		t.Errorf("cards and counts share memory: %v", b)
	}
}

// Lists of cards that are no catalogues: the functions return.
func TestInvalidCatalogues(t *testing.T) {
	l := []api.Card{{}, {Name: ""}, {Name: "a b\n1 c"}, {Name: "fox"}, {Name: "fox"}, {Name: "(", Line: api.Line{Super: -1}}, {Token: true}}
	for _, text := range []string{"", "1 \n", "1\n", "1 \n1 \n", "1 fox\n1 fox\n1 fox\n", "1 a b\n1 c\n", "1 (\n", "(1 fox\n"} {
		d, err := Parse(l, text)
		if err == api.OK && !wellFormed(l, d) {
			t.Errorf("Parse(%q) = %v", text, d)
		}
	}
	decks(func(d api.Deck) {
		Text(l, d)
		Check(l, d, api.Format{Most: 9, Copies: 4, Banned: []string{"", "fox"}})
	}, api.Deck{}, 2, []int{-1, 0, 1, 2, 3, 4, 5, 6, 7}, []int{0, 1, 250})
}
