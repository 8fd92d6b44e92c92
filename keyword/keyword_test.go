package keyword

import (
	"math"
	"strings"
	"testing"

	"cardgame/api"
)

// keys returns the names of the keywords in the order of the bits.
func keys() []string {
	return strings.Fields("flying reach haste vigilant trample first-strike double-strike deadly lifelink menace defender warded sturdy elusive no-attack no-block must-attack")
}

// texts returns the text of each valid mask, at the index of the mask.
func texts() []string {
	list := []string{""}
	for _, name := range keys() {
		for _, text := range list {
			if text != "" {
				text += "+"
			}
			list = append(list, text+name)
		}
	}
	list[0] = "none"
	return list
}

// badMasks returns masks that are invalid, some of them with the bits of keywords.
func badMasks() []int {
	bad := []int{
		math.MinInt, math.MinInt + 1, math.MinInt | 5, -1 << 32, -1<<32 + 5, -1 << 31, -api.AllKeys - 1, -api.AllKeys, -5, -2, -1,
		1<<17 + 1, 1<<18 - 1, 1<<31 - 1, 1<<32 + 5, 1<<62 | api.AllKeys, math.MaxInt - api.AllKeys, math.MaxInt - 1, math.MaxInt,
	}
	for i := 17; i < 63; i++ {
		bad = append(bad, 1<<i, 1<<i|1, 1<<i|api.MustAttack, 1<<i|api.AllKeys, -1<<i|5)
	}
	return bad
}

// parseChecker returns a function that compares Parse(s) with the texts of all valid masks.
func parseChecker(t *testing.T) func(s string) {
	masks := map[string]int{}
	for mask, text := range texts() {
		masks[text] = mask
	}
	return func(s string) {
		t.Helper()
		want, ok := masks[s]
		wantErr := api.OK
		if !ok {
			wantErr = api.ErrForm
		}
		if got, err := Parse(s); got != want || err != wantErr {
			t.Errorf("Parse(%.60q) = %v, %v, want %v, %v", s, got, err, want, wantErr)
		}
	}
}

func TestIs(t *testing.T) { // P11.1
	for mask := range texts() {
		if !Is(mask) {
			t.Errorf("Is(%d) = false", mask)
		}
	}
	if !Is(0) || !Is(api.AllKeys) || !Is(api.Flying|api.MustAttack) || Is(api.AllKeys+1) {
		t.Error("Is is wrong at a border")
	}
	for _, mask := range badMasks() {
		if Is(mask) {
			t.Errorf("Is(%d) = true", mask)
		}
	}
}

func TestName(t *testing.T) { // P11.1
	for i, want := range keys() {
		if got := Name(i); got != want {
			t.Errorf("Name(%d) = %q, want %q", i, got, want)
		}
	}
	for _, i := range []int{-1, -2, -16, -17, 17, 18, 31, 32, 64, 1 << 16, -1 << 32, 1 << 32, 1<<32 + 1, math.MinInt, math.MinInt + 1, math.MaxInt} {
		if got := Name(i); got != "" {
			t.Errorf("Name(%d) = %q of no keyword", i, got)
		}
	}
	for i := 17; i < 300; i++ {
		if Name(i) != "" || Name(-i) != "" {
			t.Errorf("Name(%d) = %q, Name(%d) = %q", i, Name(i), -i, Name(-i))
		}
	}
}

func TestNamesFollowTheBits(t *testing.T) { // P11.1, P11.2
	bits := map[int]string{
		api.Flying: "flying", api.Reach: "reach", api.Haste: "haste", api.Vigilant: "vigilant", api.Trample: "trample",
		api.FirstStrike: "first-strike", api.DoubleStrike: "double-strike", api.Deadly: "deadly", api.Lifelink: "lifelink",
		api.Menace: "menace", api.Defender: "defender", api.Warded: "warded", api.Sturdy: "sturdy", api.Elusive: "elusive",
		api.NoAttack: "no-attack", api.NoBlock: "no-block", api.MustAttack: "must-attack",
	}
	if len(bits) != len(keys()) {
		t.Fatalf("%d keywords of api", len(bits))
	}
	for i, name := range keys() {
		if bits[1<<i] != name || Name(i) != name || Text(1<<i) != name {
			t.Errorf("the bit %d has the name %q and the text %q; api calls it %q", i, Name(i), Text(1<<i), bits[1<<i])
		}
	}
}

// hasEach reports whether each bit of key is set in mask, looking at one bit after the other.
func hasEach(mask, key int) bool {
	for i := range 64 {
		if uint64(key)>>i&1 == 1 && uint64(mask)>>i&1 == 0 {
			return false
		}
	}
	return true
}

func TestHas(t *testing.T) { // P11.1
	for _, c := range []struct {
		mask, key int
		want      bool
	}{
		{0, 0, true}, {0, api.Flying, false}, {api.Flying, 0, true}, {api.Flying, api.Flying, true}, {api.Flying, api.Reach, false},
		{api.Flying | api.Haste, api.Flying | api.Haste, true}, {api.Flying | api.Haste, api.Flying | api.Reach, false},
		{api.Flying | api.Reach, api.Flying | api.Haste, false}, {api.Flying, api.Flying | api.Haste, false},
		{api.AllKeys, api.AllKeys, true}, {api.AllKeys, api.MustAttack, true}, {api.AllKeys &^ api.Menace, api.AllKeys, false},
		{api.AllKeys &^ api.Menace, api.Menace, false}, {api.AllKeys, api.AllKeys + 1, false}, {api.DoubleStrike, api.FirstStrike, false},
		{-1, api.AllKeys, true}, {-1, -1, true}, {api.AllKeys, -1, false}, {0, -1, false}, {0, math.MinInt, false}, {math.MinInt, math.MinInt, true},
		{math.MaxInt, math.MinInt, false}, {math.MinInt, 1, false}, {-2, 1, false}, {1 << 40, 1 << 40, true}, {1 << 40, 1 << 8, false},
	} {
		if got := Has(c.mask, c.key); got != c.want {
			t.Errorf("Has(%d, %d) = %v", c.mask, c.key, got)
		}
	}
}

func TestHasOfManyMasks(t *testing.T) { // P11.1
	masks := badMasks()
	for low := range 32 {
		masks = append(masks, low, low<<12, low<<6|1)
	}
	for _, mask := range masks {
		for _, key := range masks {
			if got := Has(mask, key); got != hasEach(mask, key) {
				t.Errorf("Has(%d, %d) = %v", mask, key, got)
			}
		}
	}
}

func TestText(t *testing.T) { // P11.2
	for mask, want := range texts() {
		if got := Text(mask); got != want {
			t.Errorf("Text(%d) = %q, want %q", mask, got, want)
		}
	}
	for _, mask := range badMasks() {
		if got := Text(mask); got != "" {
			t.Errorf("Text(%d) = %q of an invalid mask", mask, got)
		}
	}
}

func TestParse(t *testing.T) { // P11.2
	for mask, s := range texts() {
		if got, err := Parse(s); got != mask || err != api.OK {
			t.Errorf("Parse(%q) = %v, %v, want %v", s, got, err, mask)
		}
	}
}

func TestParseInvertsText(t *testing.T) { // P11.3
	for mask := range api.AllKeys + 1 {
		if got, err := Parse(Text(mask)); got != mask || err != api.OK {
			t.Errorf("Parse(Text(%d)) = %v, %v", mask, got, err)
		}
	}
}

// P11.2: every list of up to three words, in every order and with repetitions.
func TestParseOfEveryShortList(t *testing.T) {
	check := parseChecker(t)
	words := append(keys(), "none", "", "fox", "strike")
	lists := words
	for range 2 {
		var longer []string
		for _, s := range lists {
			check(s)
			for _, w := range words {
				longer = append(longer, s+"+"+w)
			}
		}
		lists = longer
	}
	for _, s := range lists {
		check(s)
	}
}

// P11.2: every mask with its names in the reverse order, with the first name repeated, and with a word too many.
func TestParseOfChangedTexts(t *testing.T) {
	check := parseChecker(t)
	for _, text := range texts() {
		names := strings.Split(text, "+")
		reverse := names[0]
		for _, name := range names[1:] {
			reverse = name + "+" + reverse
		}
		for _, s := range []string{reverse, text + "+" + names[0], names[0] + "+" + text, text + "+none", "none+" + text, text + "+fox", "fox+" + text} {
			check(s)
		}
	}
}

// P11.2: every text that differs in one place from that of some masks.
func TestParseNearby(t *testing.T) {
	check := parseChecker(t)
	near := append(keys(), "none", "flying+haste", "first-strike+double-strike", "no-attack+no-block+must-attack", Text(api.AllKeys))
	symbols := append(strings.Split("+ - , | a e f F 0 1 ( ) [ ] é \x00 \xff", " "), " ", "\n", "\t", "")
	for _, text := range near {
		check(strings.ToUpper(text))
		check(strings.ReplaceAll(text, "+", " + "))
		check(strings.ReplaceAll(text, "-", ""))
		check(strings.ReplaceAll(text, "-", "+"))
		for i := range len(text) + 1 {
			check(text[:i])
			check(text[i:])
			for _, s := range symbols {
				check(text[:i] + s + text[i:])
				if i < len(text) {
					check(text[:i] + s + text[i+1:])
				}
			}
			if i+1 < len(text) {
				check(text[:i] + text[i+1:i+2] + text[i:i+1] + text[i+2:])
			}
		}
	}
}

func TestParseRejects(t *testing.T) { // P11.2
	for _, s := range []string{
		"", " ", "+", "++", "none+none", "none+haste", "haste+none", "None", "NONE", "0", "1", "5", "131071", "all", "no", "must",
		"Flying", "FLYING", "flying ", " flying", "flying\n", "flying\x00", "\x00flying", "flying+", "+flying", "flying++haste",
		"flying +haste", "flying+ haste", "flying haste", "flying,haste", "flying|haste", "flying-haste", "flyinghaste", "(flying+haste)",
		"(flying)+haste", "flying+(haste)", "[flying]", "flying+flying", "haste+flying", "must-attack+no-block", "flying+reach+haste+reach",
		"firststrike", "first strike", "first_strike", "first", "strike", "double", "noattack", "attack", "block", "no-attack+block",
		"vigilance", "deathtouch", "hexproof", "flier", "fly", "flyings", "\u0434eadly", "\xff", "de\u0301adly",
		Text(api.AllKeys) + "+flying", Text(api.AllKeys) + "+", "+" + Text(api.AllKeys),
		strings.Repeat("+", 1<<20), strings.Repeat("flying+", api.MaxText), strings.Repeat("(", 1<<20) + "flying",
		"flying" + strings.Repeat("+haste", api.MaxText), "none" + strings.Repeat(" ", 1<<20), strings.Repeat(Text(api.AllKeys)+"+", 1<<10),
	} {
		if mask, err := Parse(s); mask != 0 || err != api.ErrForm {
			t.Errorf("Parse(%.60q) = %v, %v", s, mask, err)
		}
	}
}

func TestExamples(t *testing.T) {
	if Text(5) != "flying+haste" {
		t.Error("an example of the chapter fails")
	}
}
