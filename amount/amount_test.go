package amount

import (
	"regexp"
	"strconv"
	"strings"
	"testing"

	"cardgame/api"
	"cardgame/filter"
	"cardgame/probe"
)

// goodFilters returns valid filters by their texts.
func goodFilters() map[string]api.Filter {
	return map[string]api.Filter{
		"any":                  {},
		"in-hand":              {Zone: api.ZHand},
		"yours":                {Who: api.You},
		"theirs":               {Who: api.Opponents},
		"self":                 {Self: api.OnlySelf},
		"yours creature":       {Who: api.You, Types: api.Creature},
		"in-graveyard theirs":  {Zone: api.ZGraveyard, Who: api.Opponents},
		"non-land non-amber":   {NotTypes: api.Land, NotColors: api.Amber},
		"ruby":                 {Colors: api.Ruby},
		"sub:fox":              {Sub: "fox"},
		"sub:count":            {Sub: "count"},
		"sub:x":                {Sub: "x"},
		"with:flying tapped":   {Keys: api.Flying, Tap: api.TapTapped},
		"power>=3":             {Power: api.Bound{Kind: api.BAtLeast, N: 3}},
		"tough<=0 value=12":    {Tough: api.Bound{Kind: api.BAtMost}, Value: api.Bound{Kind: api.BExactly, N: 12}},
		"other value<=1000000": {Self: api.OnlyOther, Value: api.Bound{Kind: api.BAtMost, N: api.MaxNum}},
	}
}

// badFilters returns filters that are not valid.
func badFilters() []api.Filter {
	return []api.Filter{
		{Zone: api.ZGone}, {Zone: -1}, {Who: 3}, {Self: -1}, {Tap: 3}, {Types: 64}, {Types: api.Land, NotTypes: api.Land}, {Colors: -1},
		{NotColors: 32}, {Sub: "land"}, {Sub: "Fox"}, {Sub: "a)"}, {Keys: api.AllKeys + 1}, {Power: api.Bound{N: 1}}, {Tough: api.Bound{Kind: 4}},
		{Value: api.Bound{Kind: api.BExactly, N: -1}}, {Value: api.Bound{Kind: api.BExactly, N: api.MaxNum + 1}},
	}
}

// eachWords calls do with the amounts that are only a kind, and those that are a kind of counters, with their texts.
func eachWords(do func(a api.Amount, text string)) {
	do(api.Amount{Kind: api.AX}, "x")
	do(api.Amount{Kind: api.APower}, "power")
	do(api.Amount{Kind: api.ALife}, "life")
	do(api.Amount{Kind: api.AHand}, "hand")
	do(api.Amount{Kind: api.AEvent}, "that")
	do(api.Amount{Kind: api.ACounters, Counter: api.CPlus}, "counters(plus)")
	do(api.Amount{Kind: api.ACounters, Counter: api.CMinus}, "counters(minus)")
	do(api.Amount{Kind: api.ACounters, Counter: api.CCharge}, "counters(charge)")
}

// eachGood calls do with all valid amounts, with their texts, but of the filters only with those of goodFilters.
func eachGood(do func(a api.Amount, text string)) {
	eachWords(do)
	for n := range api.MaxNum + 1 {
		do(api.Amount{N: n}, strconv.Itoa(n))
	}
	for text, f := range goodFilters() {
		do(api.Amount{Kind: api.ACount, N: 1, Filter: f}, "count("+text+")")
		for n := 2; n <= 99; n++ {
			do(api.Amount{Kind: api.ACount, N: n, Filter: f}, strconv.Itoa(n)+"*count("+text+")")
		}
	}
}

// checkIs compares Is(a) with want, and with whether a has a text.
func checkIs(t *testing.T, a api.Amount, want bool) {
	t.Helper()
	if got := Is(a); got != want {
		t.Errorf("Is(%.80v) = %v", a, got)
	}
	if got := Text(a); (got != "") != want {
		t.Errorf("Text(%.80v) = %.80q", a, got)
	}
}

func TestIsOfKinds(t *testing.T) { // P14.1
	for _, kind := range probe.Numbers() {
		checkIs(t, api.Amount{Kind: kind}, 0 <= kind && kind <= 7 && kind != api.ACount)
		checkIs(t, api.Amount{Kind: kind, N: 1}, kind == api.AConst || kind == api.ACount)
		checkIs(t, api.Amount{Kind: kind, Counter: 1}, kind == api.ACounters)
		checkIs(t, api.Amount{Kind: kind, N: 1, Filter: api.Filter{Who: 1}}, kind == api.ACount)
	}
}

func TestIsOfNumbers(t *testing.T) { // P14.1
	for _, n := range probe.Numbers() {
		checkIs(t, api.Amount{N: n}, 0 <= n && n <= 1000000)
		checkIs(t, api.Amount{Kind: api.ACounters, Counter: n}, 0 <= n && n <= 2)
		for _, f := range goodFilters() {
			checkIs(t, api.Amount{Kind: api.ACount, N: n, Filter: f}, 1 <= n && n <= 99)
		}
		for _, f := range badFilters() {
			checkIs(t, api.Amount{Kind: api.ACount, N: n, Filter: f}, false)
		}
	}
}

func TestIsOfUnusedFields(t *testing.T) { // P14.1
	check := func(good api.Amount, _ string) {
		checkIs(t, good, true)
		for _, n := range probe.Numbers() {
			a := good
			a.N = n
			if good.Kind != api.AConst && good.Kind != api.ACount {
				checkIs(t, a, n == 0)
			}
			a = good
			a.Counter = n
			if good.Kind != api.ACounters {
				checkIs(t, a, n == 0)
			}
		}
		if good.Kind == api.ACount {
			return
		}
		a := good
		for _, f := range goodFilters() {
			a.Filter = f
			checkIs(t, a, f == api.Filter{})
		}
		for _, f := range badFilters() {
			a.Filter = f
			checkIs(t, a, false)
		}
	}
	eachWords(check)
	check(api.Amount{}, "")
	check(api.Amount{N: 1}, "")
	check(api.Amount{N: api.MaxNum}, "")
	for _, f := range goodFilters() {
		check(api.Amount{Kind: api.ACount, N: 1, Filter: f}, "")
		check(api.Amount{Kind: api.ACount, N: 99, Filter: f}, "")
	}
}

func TestTextAndParse(t *testing.T) { // P14.1, P14.2
	eachGood(func(a api.Amount, text string) {
		if !Is(a) {
			t.Errorf("Is(%v) = false", a)
		}
		if got := Text(a); got != text {
			t.Errorf("Text(%v) = %q, want %q", a, got, text)
		}
		if got, err := Parse(text); got != a || err != api.OK {
			t.Errorf("Parse(%q) = %v, %v, want %v", text, got, err, a)
		}
	})
}

func TestParseInvertsText(t *testing.T) { // P14.3
	amounts := map[string]api.Amount{}
	eachGood(func(a api.Amount, _ string) {
		text := Text(a)
		if other, ok := amounts[text]; ok {
			t.Errorf("%q is the text of %v and of %v", text, a, other)
		}
		amounts[text] = a
		if back, err := Parse(text); back != a || err != api.OK {
			t.Errorf("Parse(%q) = %v, %v, want %v", text, back, err, a)
		}
	})
}

// parseChecker returns a function that compares Parse(s) with the definition of the texts.
func parseChecker(t *testing.T) func(s string) {
	simple := regexp.MustCompile(`^(x|power|life|hand|that|counters\((plus|minus|charge)\)|0|[1-9][0-9]{0,5}|1000000)$`)
	counted := regexp.MustCompile(`(?s)^(([2-9]|[1-9][0-9])\*)?count\((.*)\)$`)
	return func(s string) {
		t.Helper()
		isText := simple.MatchString(s)
		if parts := counted.FindStringSubmatch(s); parts != nil {
			_, err := filter.Parse(parts[3])
			isText = err == api.OK
		}
		a, err := Parse(s)
		if isText {
			if err != api.OK || !Is(a) || Text(a) != s {
				t.Errorf("Parse(%.80q) = %v, %v", s, a, err)
			}
		} else if err != api.ErrForm || a != (api.Amount{}) {
			t.Errorf("Parse(%.80q) = %v, %v of no text", s, a, err)
		}
	}
}

// P14.2: every text of up to four pieces of texts, and longer ones behind some beginnings.
func TestParseOfPieces(t *testing.T) {
	check := parseChecker(t)
	pieces := []string{"x", "power", "that", "counters", "count", "(", ")", "plus", "any", "yours", " ", "*", "0", "1", "2", "9", "-"}
	var extend func(s string, left int)
	extend = func(s string, left int) {
		check(s)
		if left == 0 {
			return
		}
		for _, piece := range pieces {
			extend(s+piece, left-1)
		}
	}
	extend("", 4)
	extend("2*count(", 3)
	extend("count(any", 3)
	extend("counters(", 3)
}

// P14.2: every text that differs in one place from that of some amounts.
func TestParseNearby(t *testing.T) {
	check := parseChecker(t)
	texts := []string{"0", "7", "10", "100", "999999", "1000000", "count(any)", "2*count(any)", "10*count(self)", "99*count(in-hand yours sub:fox power>=3)"}
	eachWords(func(_ api.Amount, text string) { texts = append(texts, text) })
	for text := range goodFilters() {
		texts = append(texts, "count("+text+")", "12*count("+text+")")
	}
	for _, text := range texts {
		probe.Neighbours(check, text)
	}
}

func TestParseFactors(t *testing.T) { // P14.2
	check := parseChecker(t)
	for _, n := range probe.Numbers() {
		s := strconv.Itoa(n)
		check(s)
		check(s + "*count(any)")
		check("0" + s + "*count(any)")
		check(s + "*x")
		check(s + "*counters(plus)")
		check(s + "count(any)")
		check("count(any)*" + s)
		check("2*" + s + "*count(any)")
	}
}

func TestParseRejects(t *testing.T) { // P14.2
	for _, s := range []string{
		"", " ", "\n", "-", "+", "*", "(", ")", "()", "-0", "-1", "+1", "00", "01", "007", "1000001", "9999999", "99999999999999999999", "18446744073709551617",
		"-1000000", "1.0", "1e3", "0x10", "1 ", " 1", "1\n", "1_000", "٣", "const", "X", "x ", " x", "xx", "2*x", "x*2", "x()", "(x)", "Power", "POWER", "powers",
		"tough", "value", "power(self)", "2*power", "lives", "your life", "life()", "hands", "in-hand", "That", "this", "event", "it",
		"count", "count(", "count()", "count)", "count any", "count(any", "countany)", "count(any))", "count((any)", "count((any))", "count[any]", "count (any)",
		"count( any)", "count(any )", "count(any) ", " count(any)", "count(any)\n", "Count(any)", "count(Any)", "count(none)", "count(all)", "count(any any)",
		"count(any yours)", "count(creature yours)", "count(yours  creature)", "count(fox)", "count(sub:land)", "count(land non-land)", "count(power>=03)",
		"count(in-battlefield)", "count(any)count(any)", "count(any)*2", "count(any)*", "*count(any)", "0*count(any)", "1*count(any)", "01*count(any)",
		"02*count(any)", "-1*count(any)", "-2*count(any)", "+2*count(any)", "100*count(any)", "1000000*count(any)", "18446744073709551618*count(any)",
		"2 *count(any)", "2* count(any)", " 2*count(any)", "2**count(any)", "2*3*count(any)", "2*", "2*3", "2*count", "2*count(", "2*count()", "2*any", "2count(any)",
		"2(any)", "x*count(any)", "(2)*count(any)", "(2*count(any))", "2x", "count(2*any)", "count(count(any))", "2*count(counters(plus))",
		"counters", "counters(", "counters()", "counters)", "counters(plus", "counters(plus))", "counters((plus)", "counters(plus) ", "counters( plus)",
		"counters(Plus)", "counters(none)", "counters(any)", "counters(0)", "counters(1)", "counters(plus+minus)", "counters(plus minus)", "counters plus",
		"2*counters(plus)", "1*counters(plus)", "counter(plus)", "counters(plus)x", "plus", "minus", "charge", "counters(count(any))",
		"count(any)\x00", "count(\xff)", "x\x00", "\xff",
		strings.Repeat("9", 1<<20), strings.Repeat("0", 1<<20), "1" + strings.Repeat("0", 1<<20), strings.Repeat("x", 1<<20), strings.Repeat("(", 1<<20),
		strings.Repeat("*", 1<<20), strings.Repeat("count(", 1<<18), strings.Repeat("2*", 1<<18) + "count(any)", "count(" + strings.Repeat("any ", 1<<18) + ")",
		"count(any" + strings.Repeat(")", 1<<20), "counters(" + strings.Repeat("plus", 1<<18) + ")", strings.Repeat("9", 1<<20) + "*count(any)",
	} {
		if a, err := Parse(s); a != (api.Amount{}) || err != api.ErrForm {
			t.Errorf("Parse(%.80q) = %v, %v", s, a, err)
		}
	}
}

func TestExamples(t *testing.T) {
	a := api.Amount{Kind: api.ACount, N: 2, Filter: api.Filter{Who: api.You, Types: api.Creature}}
	if got, err := Parse("2*count(yours creature)"); got != a || err != api.OK || Text(a) != "2*count(yours creature)" {
		t.Error("the first example of the chapter fails")
	}
	if _, err := Parse("1*count(any)"); err != api.ErrForm {
		t.Error("1*count(any) is an amount")
	}
	if got, err := Parse("count(any)"); got != (api.Amount{Kind: api.ACount, N: 1}) || err != api.OK {
		t.Error("count(any) is none")
	}
}
