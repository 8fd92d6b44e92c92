package catalog

import (
	"regexp"
	"slices"
	"strings"
	"testing"

	"cardgame/api"
	"cardgame/card"
	"cardgame/probe"
)

// parseDefinition returns the definition of Parse, written out.
func parseDefinition() func(s string) ([]api.Card, api.Errno) {
	first := regexp.MustCompile(`(?m)^(?:card|token) `)
	return func(s string) ([]api.Card, api.Errno) {
		if len(s) > 65536 {
			return nil, api.ErrLong
		}
		var l []api.Card
		starts := append(first.FindAllStringIndex(s, -1), []int{len(s)})
		if starts[0][0] != 0 {
			return nil, api.ErrForm
		}
		for i, start := range starts[1:] {
			c, err := card.Parse(s[starts[i][0]:start[0]])
			if err != api.OK {
				return nil, api.ErrForm
			}
			l = append(l, c)
		}
		if _, err := definition(l); err != api.OK {
			return nil, err
		}
		return l, api.OK
	}
}

// parseChecker returns a function that compares Parse(s) with the definition, and the text of a result with s. found counts the
// errors.
func parseChecker(t *testing.T, found map[api.Errno]int) func(s string) {
	define := parseDefinition()
	return func(s string) {
		t.Helper()
		want, wantErr := define(s)
		found[wantErr]++
		l, err := Parse(s)
		if err != wantErr || !same(l, want) {
			t.Errorf("Parse(%.200q) = %v, %d, want %d", s, l, err, wantErr)
		}
		if err == api.OK && Text(l) != s {
			t.Errorf("Parse(%.200q) is a catalogue with the text %.200q", s, Text(l))
		}
	}
}

// P22.2: all concatenations of a few texts of cards, and of some lines that are none.
func TestParseOfPieces(t *testing.T) {
	found := map[api.Errno]int{}
	check := parseChecker(t, found)
	probe.Extend(check, "", 4, []string{imp, spring, fox, orb, greedy, cardImp, maker, breeder, "\n", "card ", "use {1}: win\n"})
	probe.Extend(check, fox, 5, []string{imp, orb, "token ", "imp\n", "type relic\n", " "})
	for _, err := range []api.Errno{api.OK, api.ErrForm, api.ErrTwice, api.ErrNone} {
		if found[err] < 20 {
			t.Errorf("%d texts have the error %d", found[err], err)
		}
	}
}

// P22.2: all sequences of lines that begin texts, or that look like these.
func TestParseOfLines(t *testing.T) {
	found := map[api.Errno]int{}
	check := parseChecker(t, found)
	lines := []string{"card a\n", "token a\n", "token b\n", "cost 0\n", "type relic\n", "type land\n", "card\n", " card a\n", "cards a\n", "use {0}: create you a 1\n", "use {0}: create you b 1\n"}
	probe.Extend(check, "", 4, lines)
	probe.Extend(check, "token a\ntype land\n", 4, lines)
	probe.Extend(check, "token a\ntype relic\ntoken b\ntype land\n", 3, lines)
	probe.Extend(check, "card card\ncost 0\ntype relic\n", 3, lines)
	if found[api.OK] < 20 || found[api.ErrNone] < 20 || found[api.ErrTwice] < 20 {
		t.Errorf("errors: %v", found)
	}
}

func TestParseNearby(t *testing.T) { // P22.2
	check := parseChecker(t, map[api.Errno]int{})
	for _, text := range []string{fox + imp, imp + spring, orb + breeder, ritual + imp + orb} {
		probe.Neighbours(check, text)
		lines := strings.SplitAfter(text, "\n")
		for i, s := range lines {
			// Without a line, with a line twice, and with a line at another place.
			others := strings.Join(lines[:i], "") + strings.Join(lines[i+1:], "")
			check(others)
			check(strings.Join(lines[:i], "") + s + s + strings.Join(lines[i+1:], ""))
			for j := range strings.Count(others, "\n") {
				parts := strings.SplitAfterN(others, "\n", j+2)
				check(strings.Join(parts[:j+1], "") + s + parts[j+1])
			}
			check(s + others)
		}
		for _, end := range []string{"\r\n", "\n\n", " \n", "\n ", ", ", "; ", "", "\r", "\v"} {
			check(strings.ReplaceAll(text, "\n", end))
		}
	}
}

// P22.2: what stands before, between and behind texts of cards.
func TestParseOfGaps(t *testing.T) {
	check := parseChecker(t, map[api.Errno]int{})
	for _, s := range []string{
		"", " ", "\n", "\n\n", "\t", "\r\n", "#\n", "card", "card ", "card\n", "card \n", "token", "token ", "token\n", "token \n", "card a", "card a\n", "token x\n", "type relic\n", "keys haste\n", "use {1}: win\n", "use {1}: win",
		"use {1}: create you imp 1\n", "spell: win\n", "static (any) blank\n", "\x00", "\xff", "é", "\ufeff", "Card x\n", "Token x\n", "CARD x\n", "cards x\n", "tokens x\n", "object x\n", "card\tx\n", "; ", ", ", "---\n", "1\n", "card x\ncost 0\ntype fox\n",
	} {
		check(s)
		for _, a := range []string{imp, spring, orb, fox} {
			check(s + a)
			check(a + s)
			check(a + s + imp)
			check(a + s + "card x\ncost 0\ntype relic\n")
			check(s + a + s + orb + s)
		}
	}
}

func TestParseErrors(t *testing.T) { // P22.2
	for _, c := range []struct {
		text string
		err  api.Errno
	}{
		{"", api.OK},
		{imp, api.OK},
		{fox + imp, api.OK},
		{imp + fox, api.OK},
		{spring + fox + ritual + altar + greedy + breeder + orb + imp, api.OK},
		{"card card\ncost 0\ntype relic token type\ntoken token\ntype relic card cost\n", api.OK}, // the heads of lines are names too
		{fox, api.ErrNone},
		{fox + cardImp, api.ErrNone},
		{selfish, api.ErrNone},
		{imp + imp, api.ErrTwice},
		{fox + cardImp + imp, api.ErrTwice},
		{spring + spring + fox, api.ErrTwice},
		{fox + spring + spring, api.ErrNone},
		{imp + maker, api.ErrTwice},
		{"x", api.ErrForm},
		{"\n", api.ErrForm},
		{" ", api.ErrForm},
		{"\n" + imp, api.ErrForm},
		{imp + "\n", api.ErrForm},
		{imp + "\n" + orb, api.ErrForm},
		{imp[:len(imp)-1], api.ErrForm},
		{imp + orb[:len(orb)-1], api.ErrForm},
		{imp + "card ", api.ErrForm},
		{imp + "card", api.ErrForm},
		{"card " + imp, api.ErrForm},
		{"type relic\n" + imp, api.ErrForm},
		{fox + "\n", api.ErrForm}, // before ErrNone
		{imp + imp + "x", api.ErrForm},
		{fox + fox + "card a\n", api.ErrForm},
		{"token imp\ncolor jet\ntype creature imp\npower 1\ntough 100\n" + orb, api.ErrForm},
		{strings.ReplaceAll(fox+imp, "\n", "\r\n"), api.ErrForm},
		{strings.Repeat("x", api.MaxText), api.ErrForm},
		{strings.Repeat("\n", api.MaxText), api.ErrForm},
		{strings.Repeat("card ", api.MaxText/5), api.ErrForm},
		{strings.Repeat("card \n", api.MaxText/6), api.ErrForm},
		{strings.Repeat("token a\n", api.MaxText/8), api.ErrForm},
		{strings.Repeat(imp, 256), api.ErrTwice},
		{strings.Repeat(imp, 257), api.ErrLong},
		{strings.Repeat(fox, 257), api.ErrLong}, // before ErrTwice and ErrNone
		{strings.Repeat(orb, api.MaxText/len(orb)), api.ErrLong},
		{strings.Repeat(orb, 257) + "x", api.ErrForm}, // before too many cards
		{"x" + strings.Repeat(orb, 300), api.ErrForm},
		{strings.Repeat(orb, 300) + "token orb\n" + strings.Repeat(orb, 300), api.ErrForm},
		{strings.Repeat("x", api.MaxText+1), api.ErrLong},
		{strings.Repeat("\n", api.MaxText+1), api.ErrLong},
		{strings.Repeat(orb, api.MaxText/len(orb)+1), api.ErrLong},
		{strings.Repeat("card \n", 1<<20), api.ErrLong},
		{strings.Repeat("\xff", 1<<24), api.ErrLong},
	} {
		l, err := Parse(c.text)
		if err != c.err || err != api.OK && len(l) != 0 || err == api.OK && Text(l) != c.text {
			t.Errorf("Parse(%.80q) with %d bytes = %d cards, %d, want %d", c.text, len(c.text), len(l), err, c.err)
		}
	}
}

// P22.2 and P22.3: catalogues with about MaxCards cards.
func TestParseOfManyCards(t *testing.T) {
	for _, n := range []int{1, 2, 255, 256, 257, 258, 1000} {
		all := manyCards(n)
		text := ""
		for _, c := range all {
			text += card.Text(c)
		}
		l, err := Parse(text)
		if n > api.MaxCards {
			if err != api.ErrLong || len(l) != 0 {
				t.Errorf("%d cards: %d", n, err)
			}
		} else if err != api.OK || !same(l, all) {
			t.Errorf("%d cards: %d cards, %d", n, len(l), err)
		}
	}
}

// longCatalog returns a catalogue whose text has n bytes, for n from about 40000 to 80000.
func longCatalog(n int) []api.Card {
	l := manyCards(200)
	for i := range l {
		l[i].Abilities = slices.Repeat(parsed(orb + "static (sub:a) blank\n")[0].Abilities, api.MaxAbilities)
	}
	missing := n - len(Text(l))
	// Longer subtypes make the text longer.
	for _, c := range l {
		for i := range c.Abilities {
			more := max(min(missing, api.MaxName-1), 0)
			c.Abilities[i].Filter.Sub = strings.Repeat("a", 1+more)
			missing -= more
		}
	}
	return l
}

// P22.2 and P22.3: texts with about MaxText bytes.
func TestLongTexts(t *testing.T) {
	for n := api.MaxText - 2; n <= api.MaxText+2; n++ {
		all := longCatalog(n)
		text := Text(all)
		if len(text) != n {
			t.Fatalf("a catalogue with %d bytes in place of %d", len(text), n)
		}
		want, wantErr := all, api.OK
		if n > api.MaxText {
			want, wantErr = nil, api.ErrLong
		}
		if l, err := Parse(text); !same(l, want) || err != wantErr {
			t.Errorf("Parse of a text with %d bytes: %d", n, err)
		}
	}
}

// P22.3: all catalogues of a few cards.
func TestParseInvertsText(t *testing.T) {
	seen := map[string]bool{}
	sequences(func(l []api.Card) {
		if _, err := Check(l); err != api.OK {
			return
		}
		text := Text(l)
		if seen[text] {
			t.Errorf("%q is the text of two catalogues", text)
		}
		seen[text] = true
		if back, err := Parse(text); !same(back, l) || err != api.OK {
			t.Errorf("Parse(%q) = %v, %d", text, back, err)
		}
	}, nil, 5, parsed(imp, orb, spring, fox, ritual, altar, greedy, breeder))
	if len(seen) < 1000 {
		t.Errorf("%d catalogues", len(seen))
	}
}

// P22.2: results share no memory with each other.
func TestSharesNothing(t *testing.T) {
	text := altar + imp + "card a\ncost 0\ntype relic b c\nstatic (any) blank, control\nuse {0} [player]: mod self [blank]; win\n"
	a, _ := Parse(text)
	b, _ := Parse(text)
	if Text(a) != text || !same(a, b) {
		t.Fatalf("%v and %v", a, b)
	}
	for _, c := range a {
		clear(c.Line.Subs)
		for _, x := range c.Abilities {
			clear(x.Mods)
			clear(x.Specs)
			for _, e := range x.Effects {
				clear(e.Mods)
			}
			clear(x.Effects)
		}
		clear(c.Abilities)
	}
	clear(a)
	if Text(b) != text {
		t.Errorf("catalogues share memory: %v", b)
	}
}
