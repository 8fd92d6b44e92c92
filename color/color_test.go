package color

import (
	"math"
	"slices"
	"strings"
	"testing"

	"cardgame/api"
)

// texts returns the text of each valid mask, at the index of the mask.
func texts() []string {
	return []string{
		"none", "amber", "cobalt", "amber+cobalt",
		"jet", "amber+jet", "cobalt+jet", "amber+cobalt+jet",
		"ruby", "amber+ruby", "cobalt+ruby", "amber+cobalt+ruby",
		"jet+ruby", "amber+jet+ruby", "cobalt+jet+ruby", "amber+cobalt+jet+ruby",
		"emerald", "amber+emerald", "cobalt+emerald", "amber+cobalt+emerald",
		"jet+emerald", "amber+jet+emerald", "cobalt+jet+emerald", "amber+cobalt+jet+emerald",
		"ruby+emerald", "amber+ruby+emerald", "cobalt+ruby+emerald", "amber+cobalt+ruby+emerald",
		"jet+ruby+emerald", "amber+jet+ruby+emerald", "cobalt+jet+ruby+emerald", "amber+cobalt+jet+ruby+emerald",
	}
}

// badMasks returns masks that are invalid, some of them with the bits of colours.
func badMasks() []int {
	bad := []int{
		math.MinInt, math.MinInt + 1, math.MinInt + 31, -1 << 32, -1<<32 + 9, -1 << 31, -api.MaxNum, -32, -31, -2, -1,
		32, 33, 63, 64, 1 << 30, 1<<31 - 1, 1 << 31, 1 << 32, 1<<32 + 9, 1<<62 | 31, math.MaxInt - 31, math.MaxInt,
	}
	for i := 5; i < 63; i++ {
		bad = append(bad, 1<<i, 1<<i|1, 1<<i|31, -1<<i|9)
	}
	return bad
}

// checkParse compares Parse(s) with the texts of the valid masks.
func checkParse(t *testing.T, s string) {
	t.Helper()
	want, wantErr := slices.Index(texts(), s), api.OK
	if want < 0 {
		want, wantErr = 0, api.ErrForm
	}
	if got, err := Parse(s); got != want || err != wantErr {
		t.Errorf("Parse(%.60q) = %v, %v, want %v, %v", s, got, err, want, wantErr)
	}
}

func TestIs(t *testing.T) { // P9.1
	for mask := range texts() {
		if !Is(mask) {
			t.Errorf("Is(%d) = false", mask)
		}
	}
	if !Is(api.AllColors) || !Is(api.Amber|api.Emerald) {
		t.Error("colours of api are not valid")
	}
	for _, mask := range badMasks() {
		if Is(mask) {
			t.Errorf("Is(%d) = true", mask)
		}
	}
}

func TestName(t *testing.T) { // P9.1
	for i, want := range map[int]string{
		0: "amber", 1: "cobalt", 2: "jet", 3: "ruby", 4: "emerald",
		-1: "", -2: "", -5: "", 5: "", 6: "", 8: "", 16: "", 31: "", 32: "", 1 << 32: "", 1<<32 + 1: "", -1 << 32: "",
		math.MinInt: "", math.MinInt + 1: "", math.MaxInt: "",
	} {
		if got := Name(i); got != want {
			t.Errorf("Name(%d) = %q, want %q", i, got, want)
		}
	}
}

func TestNameFollowsTheBits(t *testing.T) { // P9.1, P9.2
	for i, mask := range []int{api.Amber, api.Cobalt, api.Jet, api.Ruby, api.Emerald} {
		if Text(mask) != Name(i) || Count(mask) != 1 {
			t.Errorf("the mask %d has the text %q and %d colours, its colour the name %q", mask, Text(mask), Count(mask), Name(i))
		}
	}
}

func TestCount(t *testing.T) { // P9.1
	for mask, text := range texts() {
		want := 0
		if mask != 0 {
			want = strings.Count(text, "+") + 1
		}
		if got := Count(mask); got != want {
			t.Errorf("Count(%d) = %d, want %d", mask, got, want)
		}
	}
	for _, mask := range badMasks() {
		if got := Count(mask); got != 0 {
			t.Errorf("Count(%d) = %d of an invalid mask", mask, got)
		}
	}
}

func TestText(t *testing.T) { // P9.2
	for mask, want := range texts() {
		if got := Text(mask); got != want {
			t.Errorf("Text(%d) = %q, want %q", mask, got, want)
		}
	}
	for _, mask := range badMasks() {
		if got := Text(mask); got != "" {
			t.Errorf("Text(%d) = %q of an invalid mask", mask, got)
		}
	}
}

func TestParse(t *testing.T) { // P9.2
	for mask, s := range texts() {
		if got, err := Parse(s); got != mask || err != api.OK {
			t.Errorf("Parse(%q) = %v, %v, want %v", s, got, err, mask)
		}
	}
}

func TestParseInvertsText(t *testing.T) { // P9.3
	for mask := range api.AllColors + 1 {
		if got, err := Parse(Text(mask)); got != mask || err != api.OK {
			t.Errorf("Parse(Text(%d)) = %v, %v", mask, got, err)
		}
	}
}

// P9.2: every list of up to five words, in every order and with repetitions.
func TestParseOfEveryShortList(t *testing.T) {
	words := []string{"amber", "cobalt", "jet", "ruby", "emerald", "none", ""}
	lists := words
	for range 4 {
		var longer []string
		for _, s := range lists {
			checkParse(t, s)
			for _, w := range words {
				longer = append(longer, s+"+"+w)
			}
		}
		lists = longer
	}
	for _, s := range lists {
		checkParse(t, s)
	}
}

// P9.2: every text that differs in one place from that of a mask.
func TestParseNearby(t *testing.T) {
	symbols := append(strings.Split("+ - , | a e r A R 0 1 ( ) [ ] é \x00 \xff", " "), " ", "\n", "\t", "")
	for _, text := range texts() {
		checkParse(t, text)
		checkParse(t, strings.ToUpper(text))
		checkParse(t, strings.ReplaceAll(text, "+", " + "))
		for i := range len(text) + 1 {
			checkParse(t, text[:i])
			checkParse(t, text[i:])
			for _, s := range symbols {
				checkParse(t, text[:i]+s+text[i:])
				if i < len(text) {
					checkParse(t, text[:i]+s+text[i+1:])
				}
			}
			if i+1 < len(text) {
				checkParse(t, text[:i]+text[i+1:i+2]+text[i:i+1]+text[i+2:])
			}
		}
	}
}

func TestParseRejects(t *testing.T) { // P9.2
	for _, s := range []string{
		"", " ", "+", "++", "none+none", "none+amber", "amber+none", "None", "NONE", "0", "1", "9", "31", "all", "no",
		"Amber", "AMBER", "amber ", " amber", "amber\n", "amber\x00", "\x00amber", "amber+", "+amber", "amber++ruby",
		"amber +ruby", "amber+ ruby", "amber ruby", "amber,ruby", "amber|ruby", "amber-ruby", "amberruby", "(amber+ruby)",
		"(amber)+ruby", "amber+(ruby)", "[amber]", "amber+amber", "none none", "ruby+amber", "emerald+ruby+jet+cobalt+amber",
		"amber+cobalt+jet+ruby+emerald+amber", "white", "blue", "black", "red", "green", "amber+white", "A", "ACJRE",
		"amb", "ambers", "\u0430mber", "\xff", "am\u0062\u0301er",
		strings.Repeat("+", api.MaxText), strings.Repeat("amber+", api.MaxText), strings.Repeat("(", 1<<20) + "amber",
		"amber" + strings.Repeat("+amber", api.MaxText), "none" + strings.Repeat(" ", 1<<20),
	} {
		if mask, err := Parse(s); mask != 0 || err != api.ErrForm {
			t.Errorf("Parse(%.60q) = %v, %v", s, mask, err)
		}
	}
}

func TestExamples(t *testing.T) {
	if Text(9) != "amber+ruby" {
		t.Error("an example of the chapter fails")
	}
}
