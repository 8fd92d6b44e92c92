package counter

import (
	"math"
	"strings"
	"testing"

	"cardgame/api"
)

// counters is short for the type of all counters of an object.
type counters = [api.Counters]int

// ends returns numbers around each border of the chapter, those of int among them.
func ends() []int {
	m := api.MaxNum
	return []int{
		math.MinInt, math.MinInt + 1, -2*m - 1, -2 * m, -m - 1, -m, 1 - m, -7, -2, -1, 0,
		1, 2, 7, m - 2, m - 1, m, m + 1, 2 * m, 2*m + 1, math.MaxInt - 1, math.MaxInt,
	}
}

// badNumbers returns numbers that no element of valid counters has.
func badNumbers() []int {
	return []int{math.MinInt, math.MinInt + 1, -1 << 32, -api.MaxNum, -2, -1, api.MaxNum + 1, 2 * api.MaxNum, 1 << 32, 1<<32 + 1, math.MaxInt - 1, math.MaxInt}
}

// badKinds returns numbers that are no kinds of counters.
func badKinds() []int {
	return []int{math.MinInt, math.MinInt + 1, -1 << 32, -api.MaxNum, -4, -3, -2, -1, 3, 4, 5, 256, api.MaxNum, 1 << 32, 1<<32 + 1, math.MaxInt}
}

// clamped returns the nearest number to n from -MaxNum to MaxNum.
func clamped(n int) int {
	switch {
	case n > api.MaxNum:
		return api.MaxNum
	case n < -api.MaxNum:
		return -api.MaxNum
	}
	return n
}

// allEnds calls yield for all counters with the elements of ends.
func allEnds(yield func(counters)) {
	for _, a := range ends() {
		for _, b := range ends() {
			for _, c := range ends() {
				yield(counters{a, b, c})
			}
		}
	}
}

func TestIs(t *testing.T) { // P12.1
	allEnds(func(c counters) {
		want := true
		for _, n := range c {
			want = want && n >= 0 && n == clamped(n)
		}
		if got := Is(c); got != want {
			t.Errorf("Is(%v) = %v", c, got)
		}
	})
	for i := range api.Counters {
		for _, n := range badNumbers() {
			c := counters{1, 2, 3}
			c[i] = n
			if Is(c) {
				t.Errorf("Is(%v) = true", c)
			}
		}
	}
	m := api.MaxNum
	for _, c := range []counters{{}, {1}, {0, 1}, {0, 0, 1}, {5, 5, 5}, {m}, {0, m}, {0, 0, m}, {m, m, m}} {
		if !Is(c) {
			t.Errorf("Is(%v) = false", c)
		}
	}
}

func TestName(t *testing.T) { // P12.1
	for _, c := range []struct {
		kind int
		want string
	}{
		{api.CPlus, "plus"}, {api.CMinus, "minus"}, {api.CCharge, "charge"},
	} {
		if got := Name(c.kind); got != c.want {
			t.Errorf("Name(%d) = %q, want %q", c.kind, got, c.want)
		}
		if kind, ok := Kind(c.want); kind != c.kind || !ok {
			t.Errorf("Kind(%q) = %d, %v, want %d", c.want, kind, ok, c.kind)
		}
	}
	for _, kind := range badKinds() {
		if got := Name(kind); got != "" {
			t.Errorf("Name(%d) = %q of no kind", kind, got)
		}
	}
	for kind := api.Counters; kind < 300; kind++ {
		if Name(kind) != "" || Name(-kind) != "" {
			t.Errorf("Name(%d) = %q, Name(%d) = %q", kind, Name(kind), -kind, Name(-kind))
		}
	}
}

func TestKindRejects(t *testing.T) { // P12.1
	for _, s := range []string{
		"", " ", "0", "1", "2", "none", "+", "-", "+1/+1", "-1/-1", "Plus", "PLUS", "Minus", "Charge", "CPlus", "cplus",
		"plus ", " plus", "plus\n", "plus\x00", "\x00plus", "pluss", "plus+minus", "plus,minus", "plusminus", "minus plus", "charges",
		"(plus)", "\xff", "pl\u0443s", "char\u0261e", strings.Repeat("plus", 1<<20), strings.Repeat("charge", api.MaxText),
	} {
		if kind, ok := Kind(s); kind != 0 || ok {
			t.Errorf("Kind(%.60q) = %d, %v", s, kind, ok)
		}
	}
}

// P12.1: every text that differs in one place from a name.
func TestKindNearby(t *testing.T) {
	want := map[string]int{"plus": api.CPlus, "minus": api.CMinus, "charge": api.CCharge}
	check := func(s string) {
		t.Helper()
		kind, ok := want[s]
		if got, gotOK := Kind(s); got != kind || gotOK != ok {
			t.Errorf("Kind(%q) = %d, %v, want %d, %v", s, got, gotOK, kind, ok)
		}
	}
	for name := range want {
		check(name)
		for i := range len(name) + 1 {
			check(name[:i])
			check(name[i:])
			for b := range 256 {
				symbol := string([]byte{byte(b)})
				check(name[:i] + symbol + name[i:])
				if i < len(name) {
					check(name[:i] + symbol + name[i+1:])
				}
			}
			if i < len(name) {
				check(name[:i] + name[i+1:])
			}
		}
	}
}

// P12.2: each kind with each pair of numbers, the other elements unchanged even if they are invalid.
func TestAdd(t *testing.T) {
	others := []counters{{4, 5, 6}, {}, {-1, -2, -3}, {math.MinInt, math.MaxInt, math.MinInt}, {math.MaxInt, math.MinInt, math.MaxInt}}
	for kind := range api.Counters {
		for _, have := range ends() {
			for _, n := range ends() {
				sum := max(0, clamped(clamped(have)+clamped(n)))
				for _, c := range others {
					c[kind] = have
					before, want := c, c
					want[kind] = sum
					if got := Add(c, kind, n); got != want {
						t.Errorf("Add(%v, %d, %d) = %v, want %v", c, kind, n, got, want)
					}
					if c != before {
						t.Errorf("Add changed %v to %v", before, c)
					}
				}
			}
		}
	}
}

func TestAddSmall(t *testing.T) { // P12.2
	for _, c := range []struct {
		have    counters
		kind, n int
		want    counters
	}{
		{counters{}, api.CPlus, 1, counters{1}},
		{counters{}, api.CMinus, 2, counters{0, 2}},
		{counters{}, api.CCharge, 3, counters{0, 0, 3}},
		{counters{1, 2, 3}, api.CPlus, 4, counters{5, 2, 3}},
		{counters{1, 2, 3}, api.CMinus, -1, counters{1, 1, 3}},
		{counters{1, 2, 3}, api.CMinus, -2, counters{1, 0, 3}},
		{counters{1, 2, 3}, api.CMinus, -3, counters{1, 0, 3}},
		{counters{1, 2, 3}, api.CCharge, 0, counters{1, 2, 3}},
		{counters{-1, -2, -3}, api.CPlus, 0, counters{0, -2, -3}},
		{counters{-5}, api.CPlus, 7, counters{2}},
		{counters{api.MaxNum - 1}, api.CPlus, 1, counters{api.MaxNum}},
		{counters{api.MaxNum}, api.CPlus, 1, counters{api.MaxNum}},
		{counters{api.MaxNum + 5}, api.CPlus, -5, counters{api.MaxNum - 5}},
		{counters{api.MaxNum}, api.CPlus, -api.MaxNum, counters{}},
	} {
		if got := Add(c.have, c.kind, c.n); got != c.want {
			t.Errorf("Add(%v, %d, %d) = %v, want %v", c.have, c.kind, c.n, got, c.want)
		}
	}
}

// P12.2: without such a kind, counters stay as they are even if they are invalid.
func TestAddOfNoKind(t *testing.T) {
	for _, c := range []counters{{}, {1, 2, 3}, {-1, -2, -3}, {api.MaxNum + 1, math.MinInt, math.MaxInt}} {
		for _, kind := range badKinds() {
			for _, n := range ends() {
				if got := Add(c, kind, n); got != c {
					t.Errorf("Add(%v, %d, %d) = %v", c, kind, n, got)
				}
			}
		}
	}
}

// P12.2: each sum depends on the two elements of its kind alone, and is clamped even if nothing is added.
func TestSum(t *testing.T) {
	list := ends()
	for i, a := range list {
		for j, b := range list {
			for k := range list {
				c := counters{a, list[k], list[(i+7*k)%len(list)]}
				d := counters{b, list[(k+j)%len(list)], list[(j+3*k)%len(list)]}
				var want counters
				for kind := range want {
					want[kind] = max(0, clamped(clamped(c[kind])+clamped(d[kind])))
				}
				if got := Sum(c, d); got != want {
					t.Errorf("Sum(%v, %v) = %v, want %v", c, d, got, want)
				}
			}
		}
	}
}

func TestSumSmall(t *testing.T) { // P12.2
	m := api.MaxNum
	for _, c := range []struct{ c, d, want counters }{
		{counters{}, counters{}, counters{}},
		{counters{1, 2, 3}, counters{}, counters{1, 2, 3}},
		{counters{}, counters{1, 2, 3}, counters{1, 2, 3}},
		{counters{1, 2, 3}, counters{10, 20, 30}, counters{11, 22, 33}},
		{counters{1, 2, 3}, counters{-1, -3, -2}, counters{0, 0, 1}},
		{counters{-1, -2, -3}, counters{}, counters{}},
		{counters{}, counters{-1, -2, -3}, counters{}},
		{counters{m, m, 1}, counters{1, m, m}, counters{m, m, m}},
		{counters{m + 9, 0, 0}, counters{}, counters{m, 0, 0}},
	} {
		if got := Sum(c.c, c.d); got != c.want {
			t.Errorf("Sum(%v, %v) = %v, want %v", c.c, c.d, got, c.want)
		}
	}
}

// cancelAsDefined removes one pair of counters of both kinds after the other.
func cancelAsDefined(c counters) (counters, int) {
	n := 0
	for c[api.CPlus] > 0 && c[api.CMinus] > 0 {
		c[api.CPlus]--
		c[api.CMinus]--
		n++
	}
	return c, n
}

func TestCancel(t *testing.T) { // P12.3, P12.4
	for plus := range 30 {
		for minus := range 30 {
			for _, charge := range []int{0, 1, 13, api.MaxNum} {
				c := counters{api.CPlus: plus, api.CMinus: minus, api.CCharge: charge}
				want, number := cancelAsDefined(c)
				if got, n := Cancel(c); got != want || n != number {
					t.Errorf("Cancel(%v) = %v, %d, want %v, %d", c, got, n, want, number)
				}
			}
		}
	}
	m := api.MaxNum
	for _, c := range []struct {
		have, want counters
		n          int
	}{
		{counters{}, counters{}, 0},
		{counters{m, m, m}, counters{0, 0, m}, m},
		{counters{m, m - 1, 0}, counters{1, 0, 0}, m - 1},
		{counters{m - 1, m, 4}, counters{0, 1, 4}, m - 1},
		{counters{m, 0, 4}, counters{m, 0, 4}, 0},
		{counters{0, m, 4}, counters{0, m, 4}, 0},
		{counters{m, 1, 0}, counters{m - 1, 0, 0}, 1},
	} {
		if got, n := Cancel(c.have); got != c.want || n != c.n {
			t.Errorf("Cancel(%v) = %v, %d, want %v, %d", c.have, got, n, c.want, c.n)
		}
	}
}

// P12.3: one invalid element of any kind is enough.
func TestCancelOfInvalidCounters(t *testing.T) {
	for i := range api.Counters {
		for _, n := range badNumbers() {
			for _, c := range []counters{{}, {3, 2, 1}, {2, 3, 1}, {api.MaxNum, api.MaxNum, api.MaxNum}, {-1, -1, -1}} {
				c[i] = n
				if got, number := Cancel(c); got != c || number != 0 {
					t.Errorf("Cancel(%v) = %v, %d", c, got, number)
				}
			}
		}
	}
}

func TestCancelKeepsPower(t *testing.T) { // P12.4
	allEnds(func(c counters) {
		got, n := Cancel(c)
		if Power(got) != Power(c) {
			t.Errorf("Cancel(%v) = %v changes the power from %d to %d", c, got, Power(c), Power(got))
		}
		if got[api.CCharge] != c[api.CCharge] {
			t.Errorf("Cancel(%v) = %v", c, got)
		}
		if !Is(c) {
			return
		}
		if got[api.CPlus] != 0 && got[api.CMinus] != 0 {
			t.Errorf("Cancel(%v) = %v leaves counters of both kinds", c, got)
		}
		if !Is(got) || got[api.CPlus]+n != c[api.CPlus] || got[api.CMinus]+n != c[api.CMinus] {
			t.Errorf("Cancel(%v) = %v, %d", c, got, n)
		}
	})
}

func TestPower(t *testing.T) { // P12.3
	allEnds(func(c counters) {
		if got, want := Power(c), clamped(clamped(c[api.CPlus])-clamped(c[api.CMinus])); got != want {
			t.Errorf("Power(%v) = %d, want %d", c, got, want)
		}
	})
	m := api.MaxNum
	for _, c := range []struct {
		have counters
		want int
	}{
		{counters{}, 0}, {counters{2}, 2}, {counters{0, 2}, -2}, {counters{0, 0, 2}, 0}, {counters{5, 2, 9}, 3}, {counters{2, 5, 9}, -3},
		{counters{m, m, m}, 0}, {counters{m}, m}, {counters{0, m}, -m}, {counters{m, -m}, m}, {counters{-m, m}, -m},
		{counters{2 * m, m}, 0}, {counters{m, 2 * m}, 0}, {counters{-1, -3}, 2}, {counters{math.MaxInt, math.MinInt}, m},
	} {
		if got := Power(c.have); got != c.want {
			t.Errorf("Power(%v) = %d, want %d", c.have, got, c.want)
		}
	}
}

func TestExamples(t *testing.T) {
	c := counters{api.CPlus: 3, api.CMinus: 2}
	if got, n := Cancel(c); got != (counters{api.CPlus: 1}) || n != 2 {
		t.Error("Cancel of 3 plus and 2 minus:", got, n)
	}
	if c != (counters{3, 2, 0}) {
		t.Error("Cancel changed its argument:", c)
	}
}
