package card

import (
	"regexp"
	"strconv"
	"strings"
	"testing"

	"cardgame/ability"
	"cardgame/api"
	"cardgame/color"
	"cardgame/keyword"
	"cardgame/line"
	"cardgame/mana"
	"cardgame/probe"
)

// isText returns a function that reports whether s is the text of a card, which follows from the texts of its parts.
func isText() func(s string) bool {
	form := regexp.MustCompile(`^(card|token) ([^\n]*)\n(?:cost ([^\n]*)\n)?(?:color ([^\n]*)\n)?type ([^\n]*)\n(power (?:0|[1-9][0-9]?)\ntough (?:0|[1-9][0-9]?)\n)?(?:keys ([^\n]*)\n)?((?:[^\n]*\n)*)$`)
	return func(s string) bool {
		groups := form.FindStringSubmatch(s)
		if groups == nil {
			return false
		}
		head, name, cost, colors, size, keys := groups[1], groups[2], groups[3], groups[4], groups[6], groups[7]
		l, err := line.Parse(groups[5])
		ok := err == api.OK && isName(name)
		if head == "card" && l.Types < 32 {
			_, err = mana.Parse(cost)
			ok = ok && err == api.OK
		} else {
			ok = ok && !strings.Contains(s, "\ncost ")
		}
		if strings.Contains(s, "\ncolor ") {
			mask, err := color.Parse(colors)
			ok = ok && err == api.OK && mask != 0
		}
		ok = ok && (size != "") == (l.Types%2 == 1)
		if strings.Contains(s, "\nkeys ") {
			mask, err := keyword.Parse(keys)
			ok = ok && err == api.OK && mask != 0
		}
		lines := strings.Split(groups[8], "\n")
		for _, s := range lines[:len(lines)-1] {
			a, err := ability.Parse(s)
			ok = ok && err == api.OK && (a.Kind == 2) == (l.Types == 2 || l.Types == 4)
		}
		if l.Types == 2 || l.Types == 4 {
			return ok && head == "card" && keys == "" && len(lines) == 2
		}
		return ok && len(lines) < 10
	}
}

// parseChecker returns a function that compares Parse(s) with the definition of the texts.
func parseChecker(t *testing.T) func(s string) {
	isText := isText()
	return func(s string) {
		t.Helper()
		c, err := Parse(s)
		if isText(s) {
			if err != api.OK || !Is(c) || Text(c) != s {
				t.Errorf("Parse(%.80q) = %v, %v", s, c, err)
			}
		} else if err != api.ErrForm || !Same(c, api.Card{}) {
			t.Errorf("Parse(%.80q) = %v, %v of no text", s, c, err)
		}
	}
}

// P21.2: all sequences of some lines.
func TestParseOfLines(t *testing.T) {
	check := parseChecker(t)
	lines := []string{
		"card a\n", "token a\n", "cost 0\n", "color jet\n", "type relic\n", "type creature\n", "type instant\n", "type land\n", "power 1\n", "tough 2\n", "keys haste\n", "spell: win\n", "use {1}: win\n", "\n",
	}
	probe.Extend(check, "", 4, lines)
	rest := lines[2:]
	probe.Extend(check, "card a\n", 4, rest)
	probe.Extend(check, "card a\ncost 0\ntype creature\n", 4, rest)
	probe.Extend(check, "card a\ncost 0\ntype instant\n", 4, rest)
	probe.Extend(check, "token a\ntype creature\npower 0\ntough 0\n", 4, rest)
	probe.Extend(check, "card a\ncost 0\ntype relic\n", 11, []string{"use {1}: win\n"})
	probe.Extend(check, "token a\ntype land\n", 5, []string{"use {1}: win\n", "static (any) blank\n", "spell: win\n", "win\n"})
}

// P21.2: lines of all heads with all kinds of contents.
func TestParseOfContents(t *testing.T) {
	check := parseChecker(t)
	contents := []string{
		"", " ", "a", "0", "1", "01", "+1", "-1", "99", "100", "1R", "R1", "r", "X", "none", "jet", "ruby+jet", "jet+ruby", "relic", "creature", "land", "instant", "relic fox", "fox relic", "fox", "instant creature",
		"haste", "flying+haste", "haste+flying", "haste haste", "card", "token", "type", "spell: win", "win", "card a", "cost 0", "\x00", "\xff", "é", strings.Repeat("n", 32), strings.Repeat("n", 33),
	}
	for _, s := range contents {
		for _, t := range contents {
			check("card " + s + "\ncost " + t + "\ntype relic\n")
			check("token " + s + "\ncolor " + t + "\ntype relic\n")
			check("card a\ncost " + s + "\ntype " + t + "\n")
			check("card a\ncost 1\ncolor " + s + "\ntype " + t + "\npower 1\ntough 1\n")
			check("token a\ntype creature\npower " + s + "\ntough " + t + "\n")
			check("token a\ntype charm\nkeys " + s + "\n" + t + "\n")
			check("token a\ntype charm\nkeys " + s + "\nstatic (any) " + t + "\n")
			check(s + " a\ntype charm\n" + t + "\n")
			check("card a\ncost 0\ntype ritual\n" + s + "\n" + t + "\n")
		}
		check("card a\ncost 0\ntype ritual\n" + s + "\n")
		check(s + "\ntype relic\n")
		check(s)
	}
}

func TestParseNearby(t *testing.T) { // P21.2
	check := parseChecker(t)
	for text := range few() {
		probe.Neighbours(check, text)
		lines := strings.SplitAfter(text, "\n")
		for i, s := range lines {
			// Without a line, with a line twice, and with a line at another place.
			others := strings.Join(lines[:i], "") + strings.Join(lines[i+1:], "")
			check(others)
			check(strings.Join(lines[:i], "") + s + s + strings.Join(lines[i+1:], ""))
			for j := range strings.Count(others, "\n") {
				parts := strings.SplitAfterN(others, "\n", j+2)
				check(strings.Join(parts[:j+1], "") + s + parts[j+1])
			}
			check(s + others)
		}
		check(strings.ReplaceAll(text, "\n", "\r\n"))
		check(strings.ReplaceAll(text, "\n", " \n"))
		check(strings.ReplaceAll(text, "\n", "\n "))
		check(strings.ReplaceAll(text, "\n", ", "))
		check(strings.ReplaceAll(text, " ", "\t"))
		check(strings.ReplaceAll(text, " ", ": "))
	}
}

func TestParseNumbers(t *testing.T) { // P21.2
	check := parseChecker(t)
	for _, n := range probe.Numbers() {
		s := strconv.Itoa(n)
		for _, number := range []string{s, "0" + s, "+" + s, s + " ", " " + s, s + "A", "A" + s, "X" + s, s + ".0"} {
			check("token a\ntype creature\npower " + number + "\ntough 1\n")
			check("token a\ntype creature\npower 1\ntough " + number + "\n")
			check("card a\ncost " + number + "\ntype relic\n")
			check("card a\ncost 1\ncolor " + number + "\ntype relic\n")
			check("card a\ncost 1\ntype relic\nkeys " + number + "\n")
			check("card a" + number + "\ncost 1\ntype relic\n")
		}
	}
}

func TestParseRejects(t *testing.T) { // P21.2
	for _, s := range []string{
		"", " ", "\n", "\n\n", "a", "card", "card\n", "card a", "card a\n", "card \n", "card a\ncost 0\n", "card a\ntype relic\n", "card a\ncost 0\ntype relic", "card a\ncost 0\ntype relic\n\n", "\ncard a\ncost 0\ntype relic\n", "card a\n\ncost 0\ntype relic\n",
		"card a cost 0 type relic\n", "Card a\ncost 0\ntype relic\n", "card A\ncost 0\ntype relic\n", "card a b\ncost 0\ntype relic\n", "card  a\ncost 0\ntype relic\n", "card a \ncost 0\ntype relic\n", "card\ta\ncost 0\ntype relic\n", "carda\ncost 0\ntype relic\n",
		" card a\ncost 0\ntype relic\n", "name a\ncost 0\ntype relic\n", "a\ncost 0\ntype relic\n", "cost 0\ntype relic\n", "card a\ntoken a\ntype relic\n", "token a\ncard a\ncost 0\ntype relic\n", "card a\ncard a\ncost 0\ntype relic\n", "token a\ntoken a\ntype relic\n",
		"token a\ncost 0\ntype relic\n", "token a\ncost 1\ntype relic\n", "card a\ncost 0\ntype land\n", "card a\ncost 1\ntype land\n", "card a\ncost 0\ntype relic land\n", "token a\ncost 0\ntype land\n", "token land\ncost 1R\ntype land\n",
		"card a\ncost\ntype relic\n", "card a\ncost \ntype relic\n", "card a\ncost 0\ncost 0\ntype relic\n", "card a\ncost RA\ntype relic\n", "card a\ncost XXX\ntype relic\n", "card a\ncost 100\ntype relic\n", "card a\ncost {1}\ntype relic\n", "card a\ncost none\ntype relic\n",
		"card a\ntype relic\ncost 0\n", "card a\ncolor jet\ncost 0\ntype relic\n", "card a\ncost 0\ncolor none\ntype relic\n", "card a\ncost 0\ncolor\ntype relic\n", "card a\ncost 0\ncolor \ntype relic\n", "card a\ncost 0\ncolor 4\ntype relic\n",
		"card a\ncost 0\ncolor jet\ncolor jet\ntype relic\n", "card a\ncost 0\ncolor ruby+jet\ntype relic\n", "card a\ncost 0\ntype relic\ncolor jet\n", "card a\ncost 0\ntype\n", "card a\ncost 0\ntype \n", "card a\ncost 0\ntype fox\n", "card a\ncost 0\ntype relic \n",
		"card a\ncost 0\ntype relic\ntype relic\n", "card a\ncost 0\ntype relic creature\npower 1\ntough 1\n", "card a\ncost 0\ntype relic+charm\n", "card a\ncost 0\ntype creature relic\n", "card a\ncost 0\ntype relic b a\n", "card a\ncost 0\ntype relic a b c d e\n",
		"card a\ncost 0\ntype instant ritual\nspell: win\n", "card a\ncost 0\ntype instant relic\nspell: win\n", "card a\ncost 0\nrelic\n", "card a\ncost 0\ntypes relic\n",
		"card a\ncost 0\ntype creature\npower 1\n", "card a\ncost 0\ntype creature\ntough 1\n", "card a\ncost 0\ntype creature\ntough 1\npower 1\n", "card a\ncost 0\ntype creature\npower 1\ntough 100\n", "card a\ncost 0\ntype creature\npower -1\ntough 1\n",
		"card a\ncost 0\ntype creature\npower 01\ntough 1\n", "card a\ncost 0\ntype creature\npower 1/1\n", "card a\ncost 0\ntype creature\npower 1\npower 1\ntough 1\n", "card a\ncost 0\ntype creature\npower 1\ntough 1\ntough 1\n", "card a\ncost 0\ntype creature\npower 1\ntough\n",
		"card a\ncost 0\ntype creature\npower x\ntough 1\n", "card a\ncost 0\npower 1\ntough 1\ntype creature\n", "card a\ncost 0\ntype relic\npower 0\ntough 0\n", "card a\ncost 0\ntype relic\npower 1\ntough 1\n", "card a\ncost 0\ntype creature\nkeys haste\npower 1\ntough 1\n",
		"card a\ncost 0\ntype relic\nkeys none\n", "card a\ncost 0\ntype relic\nkeys\n", "card a\ncost 0\ntype relic\nkeys \n", "card a\ncost 0\ntype relic\nkeys haste+flying\n", "card a\ncost 0\ntype relic\nkeys haste, flying\n", "card a\ncost 0\ntype relic\nkeys haste\nkeys haste\n",
		"card a\ncost 0\ntype relic\nkeys haste\nkeys flying\n", "card a\ncost 0\nkeys haste\ntype relic\n", "card a\ncost 0\ntype relic\nhaste\n", "card a\ncost 0\ntype relic\nuse {1}: win\nkeys haste\n", "card a\ncost 0\ntype relic\nkeys 4\n",
		"card a\ncost 0\ntype relic\nuse {1}: win", "card a\ncost 0\ntype relic\nuse {1}: win\n\n", "card a\ncost 0\ntype relic\n\nuse {1}: win\n", "card a\ncost 0\ntype relic\n use {1}: win\n", "card a\ncost 0\ntype relic\nuse {1}: win \n", "card a\ncost 0\ntype relic\nuse {1}: win use {1}: win\n",
		"card a\ncost 0\ntype relic\nuse {1}: win; use {1}: win\n", "card a\ncost 0\ntype relic\nwin\n", "card a\ncost 0\ntype relic\nability use {1}: win\n", "card a\ncost 0\ntype relic\nuse {1}:\nwin\n", "card a\ncost 0\ntype relic\n" + strings.Repeat("use {1}: win\n", 9),
		"card a\ncost 0\ntype relic\nspell: win\n", "card a\ncost 0\ntype relic\nuse {1}: win\nspell: win\n", "card a\ncost 0\ntype creature\npower 1\ntough 1\nspell: win\n", "card a\ntype land\nspell: win\n", "token a\ntype relic\nspell: win\n",
		"card a\ncost 0\ntype instant\n", "card a\ncost 0\ntype ritual\n", "card a\ncost 0\ntype instant\nspell: win\nspell: win\n", "card a\ncost 0\ntype instant\nuse {1}: win\n", "card a\ncost 0\ntype instant\nspell: win\nuse {1}: win\n",
		"card a\ncost 0\ntype ritual\nstatic (any) blank\nspell: win\n", "card a\ncost 0\ntype ritual\nwin\n", "card a\ntype ritual\nspell: win\n", "token a\ntype instant\nspell: win\n", "token a\ncost 0\ntype ritual\nspell: win\n", "card a\ncost 0\ntype instant\nkeys haste\nspell: win\n",
		"card a\ncost 0\ntype instant\nkeys none\nspell: win\n", "card a\ncost 0\ntype instant\npower 0\ntough 0\nspell: win\n", "card a\ncost 0\ntype instant\nspell: tap target1\n", "card a\ncost 0\ntype instant\nspell: win; \n",
		"card a\r\ncost 0\r\ntype relic\r\n", "card a\rcost 0\rtype relic\r", "card a\vcost 0\vtype relic\v", "card a;cost 0;type relic;", "card a, cost 0, type relic\n", "card a\ncost 0\ntype relic\n\x00", "card a\x00\ncost 0\ntype relic\n", "card \xff\ncost 0\ntype relic\n",
		"card a\ncost 0\ntype relic\ncard b\ncost 0\ntype relic\n", "card a\ncost 0\ntype relic\ncard b\n", "card a\ntype land\ncard b\ntype land\n", "token a\ntype land\ntoken b\ntype land\n", "card é\ncost 0\ntype relic\n",
		strings.Repeat("\n", api.MaxText), strings.Repeat("a", api.MaxText), strings.Repeat("card a\n", 9000), strings.Repeat("card a\ncost 0\ntype relic\n", 2000), "card a\ncost 0\ntype relic\n" + strings.Repeat("use {1}: win\n", 5000),
		"card a\ncost 0\ntype relic\n" + strings.Repeat("\n", 65000), "card " + strings.Repeat("a", 65000) + "\ncost 0\ntype relic\n", "card a\ncost " + strings.Repeat("9", 65000) + "\ntype relic\n", "card a\ncost 0\ntype relic\nkeys " + strings.Repeat("flying+", 9000) + "flying\n",
		"card a\ncost 0\ntype relic " + strings.Repeat("a ", 32000) + "a\n", "token a\ntype creature\npower " + strings.Repeat("1", 65000) + "\ntough 1\n", "card a\ncost 0\ntype relic\nuse {1}: " + strings.Repeat("win; ", 13000) + "win\n", "card a\ncost 0\ntype relic\n" + strings.Repeat("(", 65000) + "\n",
	} {
		if c, err := Parse(s); !Same(c, api.Card{}) || err != api.ErrForm {
			t.Errorf("Parse(%.80q) = %v, %v", s, c, err)
		}
	}
}

// longCard returns a valid card whose text has n bytes, for n from about 40000 to 200000.
func longCard(n int) api.Card {
	c := api.Card{Name: "a", Line: api.Line{Types: api.Relic}}
	for range api.MaxAbilities {
		a := api.Ability{Kind: api.AbTriggered, Trigger: api.Trigger{When: api.TUpkeep}}
		for range api.MaxEffects {
			e := api.Effect{Op: api.OpMod, Ref: api.Ref{Kind: api.RSelf}}
			for range api.MaxMods {
				f := api.Filter{Who: api.Opponents, NotTypes: api.AllTypes, Sub: "a", NotColors: api.AllColors}
				e.Mods = append(e.Mods, api.Mod{Kind: api.MCountPT, Filter: f})
			}
			a.Effects = append(a.Effects, e)
		}
		c.Abilities = append(c.Abilities, a)
	}
	missing := n - len(Text(c))
	// Longer subtypes make the text longer.
	for _, a := range c.Abilities {
		for _, e := range a.Effects {
			for i := range e.Mods {
				f := &e.Mods[i].Filter
				more := max(min(missing, api.MaxName-1), 0)
				f.Sub = strings.Repeat("a", 1+more)
				missing -= more
			}
		}
	}
	return c
}

// P21.2 and P21.3: texts with about MaxText bytes.
func TestLongTexts(t *testing.T) {
	for n := api.MaxText - 2; n <= api.MaxText+2; n++ {
		c := longCard(n)
		text := Text(c)
		if len(text) != n || !Is(c) {
			t.Fatalf("a card with %d bytes in place of %d", len(text), n)
		}
		want, wantErr := c, api.OK
		if n > api.MaxText {
			want, wantErr = api.Card{}, api.ErrLong
		}
		if got, err := Parse(text); !Same(got, want) || err != wantErr {
			t.Errorf("Parse of a text with %d bytes: %v", n, err)
		}
	}
}

// P21.2: that a text is too long is reported first.
func TestTooLong(t *testing.T) {
	for _, n := range []int{api.MaxText + 1, 1 << 20, 1 << 24} {
		for _, s := range []string{"\n", "a", "\xff", "card a\n", "card a\ncost 0\ntype relic\n", "use {1}: win\n"} {
			if c, err := Parse(strings.Repeat(s, n/len(s)+1)); !Same(c, api.Card{}) || err != api.ErrLong {
				t.Errorf("Parse of %q, repeated to %d bytes: %v, %v", s, n, c, err)
			}
		}
	}
}

// inverter returns a function that checks that Parse inverts Text for a valid card, and that no other one that it was called
// with has the same text.
func inverter(t *testing.T) func(c api.Card) {
	seen := map[string]bool{}
	return func(c api.Card) {
		t.Helper()
		text := Text(c)
		if text == "" || seen[text] {
			t.Errorf("the text of %v is %q, like that of another card", c, text)
		}
		seen[text] = true
		if back, err := Parse(text); !Same(back, c) || err != api.OK {
			t.Errorf("Parse(%q) = %v, %v, want %v", text, back, err, c)
		}
	}
}

// P21.3: all sizes, colours and type lines, and many costs and sets of keywords.
func TestParseInvertsText(t *testing.T) {
	check := inverter(t)
	creature := api.Card{Name: "fox", Line: api.Line{Types: api.Creature}}
	for power := range 100 {
		for tough := range 100 {
			c := creature
			c.Power, c.Tough, c.Token = power, tough, tough%2 == 1
			check(c)
		}
	}
	for mask := 1; mask <= api.AllColors; mask++ {
		c := creature
		c.Color = mask
		check(c)
		c.Token = true
		check(c)
	}
	for keys := 1; keys <= api.AllKeys; keys += 1 + keys/3 {
		c := creature
		c.Keys = keys
		check(c)
	}
	for generic := range 100 {
		for x := range 3 {
			for i := range 5 {
				c := creature
				c.Name = "cat"
				c.Cost = api.Cost{Generic: generic, X: x}
				c.Cost.Color[i] = 1 + generic%9
				check(c)
			}
		}
	}
	spell, _ := ability.Parse("spell: win")
	for super := range 4 {
		for types := 1; types < 64; types++ {
			for _, subs := range [][]string{nil, {"fox"}, {"a", "b", "c", "d"}} {
				c := api.Card{Name: "hare", Line: api.Line{Super: super, Types: types, Subs: subs}}
				if types == 2 || types == 4 {
					c.Abilities = []api.Ability{spell}
				}
				if line.Is(c.Line) {
					check(c)
				}
			}
		}
	}
}

// P21.3: names and lists of abilities.
func TestParseInvertsTextOfAbilities(t *testing.T) {
	check := inverter(t)
	some := []string{"use {tap}: mana E", "use {0} slow [player]: win", "static (any) blank", "when dies (self) may: draw you 1", "replace hurt you prevent"}
	lists := [][]api.Ability{nil}
	for range 4 {
		var longer [][]api.Ability
		for _, l := range lists {
			for _, name := range goodNames() {
				check(api.Card{Name: name, Line: api.Line{Types: api.Charm}, Abilities: l})
			}
			for _, s := range some {
				a, _ := ability.Parse(s)
				longer = append(longer, append(l[:len(l):len(l)], a))
			}
		}
		lists = longer
	}
	for n := 5; n <= api.MaxAbilities; n++ {
		c := api.Card{Name: "fox", Line: api.Line{Types: api.Land}}
		for i := range n {
			a, _ := ability.Parse(some[i%len(some)])
			c.Abilities = append(c.Abilities, a)
		}
		check(c)
	}
}

// P21.2: results share no memory with each other, and Text and Same change nothing.
func TestSharesNothing(t *testing.T) {
	text := "card a\ncost 0\ntype relic b c\nstatic (any) blank, control\nuse {0} [player]: mod self [blank]; win\n"
	a, _ := Parse(text)
	b, _ := Parse(text)
	if Text(a) != text || Text(a) != text || !Same(a, b) || !Is(a) || !Same(a, b) {
		t.Fatalf("%v and %v", a, b)
	}
	clear(a.Line.Subs)
	for _, x := range a.Abilities {
		clear(x.Mods)
		clear(x.Specs)
		for _, e := range x.Effects {
			clear(e.Mods)
		}
		clear(x.Effects)
	}
	clear(a.Abilities)
	if Text(b) != text {
		t.Errorf("cards share memory: %v", b)
	}
}
