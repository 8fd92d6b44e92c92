package num

import (
	"cardgame/api"
	"math"
	"slices"
	"strings"
	"testing"
)

// edges are numbers around the bounds of every range that the chapter names.
var edges = []int{
	math.MinInt, math.MinInt + 1, -1 << 32, -2*api.MaxNum - 1, -api.MaxNum - 1, -api.MaxNum, -api.MaxNum + 1,
	-1001, -3, -2, -1, 0, 1, 2, 3, 1001,
	api.MaxNum - 1, api.MaxNum, api.MaxNum + 1, 2*api.MaxNum + 1, 1 << 32, math.MaxInt - 1, math.MaxInt,
}

// clamped is P1.1's definition, written without the package.
func clamped(n int) int {
	if n > 1000000 {
		return 1000000
	}
	if n < -1000000 {
		return -1000000
	}
	return n
}

func TestClamp(t *testing.T) { // P1.1
	for _, c := range []struct{ n, want int }{
		{0, 0}, {17, 17}, {-17, -17},
		{999999, 999999}, {1000000, 1000000}, {1000001, 1000000}, {math.MaxInt, 1000000},
		{-999999, -999999}, {-1000000, -1000000}, {-1000001, -1000000}, {math.MinInt, -1000000},
	} {
		if got := Clamp(c.n); got != c.want {
			t.Errorf("Clamp(%d) = %d, want %d", c.n, got, c.want)
		}
	}
}

func TestArithmetic(t *testing.T) { // P1.1
	for _, c := range []struct {
		name    string
		f       func(a, b int) int
		a, b, n int
	}{
		{"Add", Add, 2, 3, 5}, {"Add", Add, -2, -3, -5}, {"Add", Add, 7, -10, -3},
		{"Add", Add, 999999, 1, 1000000}, {"Add", Add, 999999, 2, 1000000}, {"Add", Add, -999999, -2, -1000000},
		{"Add", Add, 2000000, -400000, 600000}, {"Add", Add, -2000000, 400000, -600000},
		{"Add", Add, math.MaxInt, math.MaxInt, 1000000}, {"Add", Add, math.MinInt, math.MinInt, -1000000},
		{"Add", Add, math.MaxInt, math.MinInt, 0},
		{"Sub", Sub, 2, 3, -1}, {"Sub", Sub, -2, -3, 1}, {"Sub", Sub, 7, -10, 17},
		{"Sub", Sub, 999999, -2, 1000000}, {"Sub", Sub, -999999, 2, -1000000},
		{"Sub", Sub, 2000000, 400000, 600000}, {"Sub", Sub, 400000, 2000000, -600000},
		{"Sub", Sub, 0, math.MinInt, 1000000}, {"Sub", Sub, -2, math.MaxInt, -1000000},
		{"Sub", Sub, math.MinInt, math.MinInt, 0},
		{"Mul", Mul, 6, 7, 42}, {"Mul", Mul, -6, 7, -42}, {"Mul", Mul, -6, -7, 42}, {"Mul", Mul, math.MaxInt, 0, 0},
		{"Mul", Mul, 1000, 1000, 1000000}, {"Mul", Mul, 1000, 1001, 1000000}, {"Mul", Mul, -1000, 1001, -1000000},
		{"Mul", Mul, 1 << 32, 1 << 32, 1000000}, {"Mul", Mul, math.MinInt, math.MinInt, 1000000},
		{"Mul", Mul, math.MinInt, -1, 1000000}, {"Mul", Mul, math.MaxInt/2 + 1, 2, 1000000},
	} {
		if got := c.f(c.a, c.b); got != c.n {
			t.Errorf("%s(%d, %d) = %d, want %d", c.name, c.a, c.b, got, c.n)
		}
	}
}

func TestArithmeticAtEdges(t *testing.T) { // P1.1
	for _, a := range edges {
		for _, b := range edges {
			x, y := clamped(a), clamped(b)
			if got := Add(a, b); got != clamped(x+y) {
				t.Errorf("Add(%d, %d) = %d", a, b, got)
			}
			if got := Sub(a, b); got != clamped(x-y) {
				t.Errorf("Sub(%d, %d) = %d", a, b, got)
			}
			if got := Mul(a, b); got != clamped(x*y) {
				t.Errorf("Mul(%d, %d) = %d", a, b, got)
			}
		}
	}
}

func TestHalf(t *testing.T) { // P1.2
	for _, c := range []struct{ n, down, up int }{
		{0, 0, 0}, {1, 0, 1}, {2, 1, 1}, {3, 1, 2}, {7, 3, 4}, {8, 4, 4},
		{-1, -1, 0}, {-2, -1, -1}, {-3, -2, -1}, {-7, -4, -3}, {-8, -4, -4},
		{999999, 499999, 500000}, {1000000, 500000, 500000}, {1000001, 500000, 500000}, {math.MaxInt, 500000, 500000},
		{-999999, -500000, -499999}, {-1000000, -500000, -500000}, {-1000001, -500000, -500000},
		{math.MinInt, -500000, -500000},
	} {
		if got := Half(c.n, false); got != c.down {
			t.Errorf("Half(%d, false) = %d, want %d", c.n, got, c.down)
		}
		if got := Half(c.n, true); got != c.up {
			t.Errorf("Half(%d, true) = %d, want %d", c.n, got, c.up)
		}
	}
}

func TestBits(t *testing.T) { // P1.3
	var all []int
	for i := range 31 {
		all = append(all, i)
		if got := Bits(1 << i); !slices.Equal(got, []int{i}) {
			t.Errorf("Bits(1<<%d) = %v", i, got)
		}
	}
	for _, c := range []struct {
		mask int
		want []int
	}{
		{0, nil}, {1, []int{0}}, {6, []int{1, 2}}, {api.AllColors, []int{0, 1, 2, 3, 4}}, {1<<30 | 6, []int{1, 2, 30}},
		{1<<31 - 1, all}, {1 << 31, nil}, {1<<31 | 1, []int{0}}, {1<<62 | 1<<30, []int{30}}, {math.MaxInt, all},
		{-1, nil}, {-2, nil}, {-1 << 31, nil}, {math.MinInt, nil}, {math.MinInt + 1, nil},
	} {
		if got := Bits(c.mask); !slices.Equal(got, c.want) {
			t.Errorf("Bits(%d) = %v, want %v", c.mask, got, c.want)
		}
	}
}

func TestBitsIsNewMemory(t *testing.T) { // P1.3 and rule 4
	Bits(7)[0] = 99
	if got := Bits(7); !slices.Equal(got, []int{0, 1, 2}) {
		t.Errorf("Bits(7) = %v after a change of an earlier result", got)
	}
}

func TestText(t *testing.T) { // P1.4
	for n, want := range map[int]string{
		0: "0", 7: "7", -7: "-7", 10: "10", -40: "-40", 1000000: "1000000", -1000000: "-1000000", 1000001: "1000001",
		math.MaxInt: "9223372036854775807", math.MinInt: "-9223372036854775808",
	} {
		if got := Text(n); got != want {
			t.Errorf("Text(%d) = %q, want %q", n, got, want)
		}
	}
}

func TestNumber(t *testing.T) { // P1.4
	for s, want := range map[string]int{
		"0": 0, "7": 7, "-7": -7, "10": 10, "-40": -40,
		"999999": 999999, "1000000": 1000000, "-999999": -999999, "-1000000": -1000000,
	} {
		if got, ok := Number(s); got != want || !ok {
			t.Errorf("Number(%q) = %d, %v", s, got, ok)
		}
	}
}

func TestNumberRejects(t *testing.T) { // P1.4
	for _, s := range []string{
		"", "-", "+", "--5", "-+5", "+5", "+0", "-0", "00", "007", "-007", "01", "-01",
		" 1", "1 ", "1\n", "\t1", "1\x00", "\x001", "1a", "a", "x", "1.0", "1e3", "0x10", "0b1", "1_000", "1,000", "5-", "- 5",
		"1000001", "-1000001", "2000000", "9223372036854775807", "9223372036854775808", "-9223372036854775808",
		"-9223372036854775809", "18446744073709551617", "99999999999999999999", "\u0661", "\uff11", "\u22125", "\xff",
		strings.Repeat("9", api.MaxText), strings.Repeat("0", api.MaxText) + "1",
	} {
		if got, ok := Number(s); got != 0 || ok {
			t.Errorf("Number(%.30q) = %d, %v", s, got, ok)
		}
	}
}

func TestNumberInvertsText(t *testing.T) { // P1.4
	for n := -api.MaxNum - 100; n <= api.MaxNum+100; n += 13 {
		want := clamped(n) == n
		if got, ok := Number(Text(n)); ok != want || ok && got != n || !ok && got != 0 {
			t.Fatalf("Number(Text(%d)) = %d, %v", n, got, ok)
		}
	}
}

func TestMeets(t *testing.T) { // P1.5
	for _, c := range []struct {
		kind, bound         int
		below, equal, above bool
	}{
		{api.BAny, 5, true, true, true}, {api.BAny, 0, true, true, true}, {api.BAny, -5, true, true, true},
		{api.BAtLeast, 5, false, true, true}, {api.BAtLeast, 0, false, true, true}, {api.BAtLeast, -5, false, true, true},
		{api.BAtMost, 5, true, true, false}, {api.BAtMost, 0, true, true, false}, {api.BAtMost, -5, true, true, false},
		{api.BExactly, 5, false, true, false}, {api.BExactly, 0, false, true, false}, {api.BExactly, -5, false, true, false},
		{api.BAtLeast, api.MaxNum, false, true, true}, {api.BAtMost, -api.MaxNum, true, true, false},
		{api.BExactly, api.MaxNum, false, true, false}, {api.BExactly, 1 << 40, false, true, false},
		{4, 5, false, false, false}, {-1, 5, false, false, false}, {5, 0, false, false, false},
		{math.MaxInt, 5, false, false, false}, {math.MinInt, 5, false, false, false},
	} {
		b := api.Bound{Kind: c.kind, N: c.bound}
		for i, want := range []bool{c.below, c.equal, c.above} {
			n := c.bound - 1 + i
			if got := Meets(b, n); got != want {
				t.Errorf("Meets(%v, %d) = %v", b, n, got)
			}
		}
	}
}

func TestMeetsAtTheEndsOfInt(t *testing.T) { // P1.5: a comparison, not a difference that wraps around
	for _, c := range []struct {
		b    api.Bound
		n    int
		want bool
	}{
		{api.Bound{Kind: api.BAtLeast, N: math.MinInt}, math.MaxInt, true},
		{api.Bound{Kind: api.BAtLeast, N: math.MaxInt}, math.MinInt, false},
		{api.Bound{Kind: api.BAtMost, N: math.MaxInt}, math.MinInt, true},
		{api.Bound{Kind: api.BAtMost, N: math.MinInt}, math.MaxInt, false},
		{api.Bound{Kind: api.BExactly, N: math.MinInt}, math.MaxInt, false},
		{api.Bound{Kind: api.BAny}, math.MinInt, true},
	} {
		if got := Meets(c.b, c.n); got != c.want {
			t.Errorf("Meets(%v, %d) = %v", c.b, c.n, got)
		}
	}
}

func TestExamples(t *testing.T) {
	if n, ok := Number("007"); Mul(1000, 1001) != 1000000 || Half(-3, false) != -2 || Half(-3, true) != -1 || n != 0 || ok {
		t.Error("an example of the chapter fails")
	}
}
