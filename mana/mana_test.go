package mana

import (
	"fmt"
	"math"
	"math/big"
	"regexp"
	"slices"
	"strings"
	"testing"

	"cardgame/api"
)

// field returns field i of c: Generic, X, and the colours in order.
func field(c *api.Cost, i int) *int {
	switch i {
	case 0:
		return &c.Generic
	case 1:
		return &c.X
	}
	return &c.Color[i-2]
}

// fieldMost returns the greatest valid value of each field.
func fieldMost() []int {
	return []int{99, 2, 9, 9, 9, 9, 9}
}

// badCosts returns costs of which one field is invalid.
func badCosts() []api.Cost {
	var bad []api.Cost
	for i, most := range fieldMost() {
		for _, n := range []int{math.MinInt, -1, most + 1, math.MaxInt} {
			c := api.Cost{Generic: 1, X: 1, Color: [5]int{1, 1, 1, 1, 1}}
			*field(&c, i) = n
			bad = append(bad, c)
		}
	}
	return bad
}

// badPools returns pools of which one element is invalid.
func badPools() []api.Pool {
	var bad []api.Pool
	for i := range 6 {
		for _, n := range []int{math.MinInt, -api.MaxNum, -1, api.MaxNum + 1, math.MaxInt} {
			p := api.Pool{9, 9, 9, 9, 9, 9}
			p[i] = n
			bad = append(bad, p)
		}
	}
	return bad
}

// someColors calls yield for every amount of coloured mana with each colour from 0 to most.
func someColors(most int, yield func([5]int)) {
	for n := range power(most+1, 5) {
		var color [5]int
		for i := range color {
			color[i] = n % (most + 1)
			n /= most + 1
		}
		yield(color)
	}
}

// power returns b to the power of e.
func power(b, e int) int {
	p := 1
	for range e {
		p *= b
	}
	return p
}

// costText returns the text of a valid cost, symbol by symbol.
func costText(c api.Cost) string {
	var s []byte
	for range c.X {
		s = append(s, 'X')
	}
	if c.Generic != 0 {
		s = fmt.Append(s, c.Generic)
	}
	for i, letter := range []byte{'A', 'C', 'J', 'R', 'E'} {
		for range c.Color[i] {
			s = append(s, letter)
		}
	}
	if len(s) == 0 {
		return "0"
	}
	return string(s)
}

// P8.1
func TestIs(t *testing.T) {
	for i, most := range fieldMost() {
		for _, rest := range []int{0, 1, 2} {
			for _, n := range []int{0, 1, most - 1, most} {
				c := api.Cost{Generic: rest, X: rest, Color: [5]int{rest, rest, rest, rest, rest}}
				*field(&c, i) = n
				if !Is(c) {
					t.Errorf("Is(%v) = false", c)
				}
			}
		}
	}
	if !Is(api.Cost{Generic: 99, X: 2, Color: [5]int{9, 9, 9, 9, 9}}) {
		t.Error("the greatest cost is not valid")
	}
	for _, c := range badCosts() {
		if Is(c) {
			t.Errorf("Is(%v) = true", c)
		}
	}
}

// P8.1
func TestWhole(t *testing.T) {
	m := api.MaxNum
	good := []api.Pool{{}, {100}, {0, 10}, {1, 2, 3, 4, 5, 6}, {m, m, m, m, m, m}}
	for i := range 6 {
		for _, n := range []int{1, m - 1, m} {
			var p api.Pool
			p[i] = n
			good = append(good, p)
		}
	}
	for _, p := range good {
		if !Whole(p) {
			t.Errorf("Whole(%v) = false", p)
		}
	}
	for _, p := range badPools() {
		if Whole(p) {
			t.Errorf("Whole(%v) = true", p)
		}
	}
}

// P8.1
func TestText(t *testing.T) {
	for _, c := range []struct {
		cost api.Cost
		want string
	}{
		{api.Cost{}, "0"},
		{api.Cost{Generic: 1}, "1"},
		{api.Cost{Generic: 10}, "10"},
		{api.Cost{Generic: 99}, "99"},
		{api.Cost{X: 1}, "X"},
		{api.Cost{X: 2, Generic: 3, Color: [5]int{0, 0, 0, 1, 0}}, "XX3R"},
		{api.Cost{Color: [5]int{1, 1, 1, 1, 1}}, "ACJRE"},
		{api.Cost{Color: [5]int{0, 2, 0, 0, 1}}, "CCE"},
		{api.Cost{Generic: 2, Color: [5]int{2}}, "2AA"},
		{api.Cost{Generic: 99, X: 2, Color: [5]int{9, 9, 9, 9, 9}}, "XX99AAAAAAAAACCCCCCCCCJJJJJJJJJRRRRRRRRREEEEEEEEE"},
	} {
		if got := Text(c.cost); got != c.want {
			t.Errorf("Text(%v) = %q, want %q", c.cost, got, c.want)
		}
	}
	for _, c := range badCosts() {
		if got := Text(c); got != "" {
			t.Errorf("Text(%v) = %q of an invalid cost", c, got)
		}
	}
}

// P8.1
func TestPoolText(t *testing.T) {
	for _, c := range []struct {
		pool api.Pool
		want string
	}{
		{api.Pool{}, "0"},
		{api.Pool{1, 0, 0, 0, 2, 0}, "1RR"},
		{api.Pool{0, 1, 2, 3, 4, 5}, "ACCJJJRRRREEEEE"},
		{api.Pool{99, 9, 9, 9, 9, 9}, "99AAAAAAAAACCCCCCCCCJJJJJJJJJRRRRRRRRREEEEEEEEE"},
		{api.Pool{99}, "99"},
		{api.Pool{100}, ""},
		{api.Pool{api.MaxNum}, ""},
		{api.Pool{0, 9}, "AAAAAAAAA"},
		{api.Pool{0, 10}, ""},
		{api.Pool{0, 0, 10}, ""},
		{api.Pool{0, 0, 0, 10}, ""},
		{api.Pool{0, 0, 0, 0, 10}, ""},
		{api.Pool{0, 0, 0, 0, 0, 10}, ""},
		{api.Pool{0, 0, 0, 0, 0, api.MaxNum}, ""},
	} {
		if got := PoolText(c.pool); got != c.want {
			t.Errorf("PoolText(%v) = %q, want %q", c.pool, got, c.want)
		}
	}
	for _, p := range badPools() {
		if got := PoolText(p); got != "" {
			t.Errorf("PoolText(%v) = %q of an invalid pool", p, got)
		}
	}
}

// P8.1, P8.2, P8.6
func TestParseInvertsText(t *testing.T) {
	check := func(c api.Cost) {
		s := Text(c)
		if want := costText(c); s != want {
			t.Fatalf("Text(%v) = %q, want %q", c, s, want)
		}
		if got, err := Parse(s); got != c || err != api.OK {
			t.Fatalf("Parse(%q) = %v, %v", s, got, err)
		}
		pool := api.Pool{c.Generic, c.Color[0], c.Color[1], c.Color[2], c.Color[3], c.Color[4]}
		got, err := ParsePool(s)
		if c.X > 0 {
			if got != (api.Pool{}) || err != api.ErrForm {
				t.Fatalf("ParsePool(%q) = %v, %v", s, got, err)
			}
			return
		}
		if got != pool || err != api.OK || PoolText(pool) != s {
			t.Fatalf("ParsePool(%q) = %v, %v; PoolText(%v) = %q", s, got, err, pool, PoolText(pool))
		}
	}
	for x := range 3 {
		for generic := range 100 {
			someColors(1, func(color [5]int) { check(api.Cost{Generic: generic, X: x, Color: color}) })
		}
		for _, generic := range []int{0, 9, 10} {
			someColors(3, func(color [5]int) {
				check(api.Cost{Generic: generic, X: x, Color: color})
				for i := range color {
					color[i] *= 3
				}
				check(api.Cost{Generic: generic, X: x, Color: color})
			})
		}
	}
}

// parsedAsDefined returns the valid cost whose text is s, and whether there is one, by the form of texts.
func parsedAsDefined(form *regexp.Regexp, s string) (api.Cost, bool) {
	if s == "0" {
		return api.Cost{}, true
	}
	part := form.FindStringSubmatch(s)
	if s == "" || part == nil {
		return api.Cost{}, false
	}
	c := api.Cost{X: len(part[1])}
	for _, digit := range part[2] {
		c.Generic = 10*c.Generic + int(digit-'0')
	}
	for i := range c.Color {
		c.Color[i] = len(part[3+i])
	}
	return c, true
}

// checkParse compares Parse and ParsePool of s with the form of texts.
func checkParse(t *testing.T, form *regexp.Regexp, s string) {
	t.Helper()
	want, ok := parsedAsDefined(form, s)
	wantErr := api.ErrForm
	if ok {
		wantErr = api.OK
	}
	if got, err := Parse(s); got != want || err != wantErr {
		t.Errorf("Parse(%q) = %v, %v, want %v, %v", s, got, err, want, wantErr)
	}
	pool := api.Pool{want.Generic, want.Color[0], want.Color[1], want.Color[2], want.Color[3], want.Color[4]}
	if !ok || want.X > 0 {
		pool, wantErr = api.Pool{}, api.ErrForm
	}
	if got, err := ParsePool(s); got != pool || err != wantErr {
		t.Errorf("ParsePool(%q) = %v, %v, want %v, %v", s, got, err, pool, wantErr)
	}
}

// form returns the form of the texts of costs but 0.
func form() *regexp.Regexp {
	return regexp.MustCompile(`\A(X{0,2})((?:[1-9][0-9]?)?)(A{0,9})(C{0,9})(J{0,9})(R{0,9})(E{0,9})\z`)
}

// P8.2
func TestParseShort(t *testing.T) {
	f := form()
	const alphabet = "X01ACJRE-a"
	texts := []string{""}
	for range 5 {
		var longer []string
		for _, s := range texts {
			checkParse(t, f, s)
			for i := range alphabet {
				longer = append(longer, s+alphabet[i:i+1])
			}
		}
		texts = longer
	}
	for _, s := range texts {
		checkParse(t, f, s)
	}
}

// P8.2: each text that differs in one place from that of a cost.
func TestParseNearby(t *testing.T) {
	f := form()
	symbols := strings.Split("X 0 1 5 9 A C J R E x a + - . é \x00 \xff", " ")
	symbols = append(symbols, " ", "\n", "")
	for _, s := range []string{
		"0", "7", "10", "99", "X", "XX", "XX3R", "X12", "2AA", "ACJRE", "XX12AACE", "XX99ACJRE", "5E",
		"AAAAAAAAA", "CCCCCCCCC", "JJJJJJJJJ", "RRRRRRRRR", "EEEEEEEEE",
		"XX99AAAAAAAAACCCCCCCCCJJJJJJJJJRRRRRRRRREEEEEEEEE",
	} {
		checkParse(t, f, s)
		for i := range len(s) + 1 {
			for _, symbol := range symbols {
				checkParse(t, f, s[:i]+symbol+s[i:])
				if i < len(s) {
					checkParse(t, f, s[:i]+symbol+s[i+1:])
				}
			}
			if i+1 < len(s) {
				checkParse(t, f, s[:i]+s[i+1:i+2]+s[i:i+1]+s[i+2:])
			}
		}
	}
}

// P8.2
func TestParseInvalid(t *testing.T) {
	for _, s := range []string{
		"", " ", "00", "01", "001", "X0", "0X", "0A", "A0", "R3", "3X", "XXX", "X3X", "AX", "AXA", "CA", "EA", "ACA", "A1", "A1A", "1A1",
		"100", "1000000", "-1", "+1", "-0", "1.0", "1e1", "0x1", "1_0", "a", "x", "B", "W", " 1", "1 ", "1 A", "A A", "{1}",
		"AAAAAAAAAA", "CCCCCCCCCC", "JJJJJJJJJJ", "RRRRRRRRRR", "EEEEEEEEEE", "А", "１", "٣", "1\x00", "\xff",
		"18446744073709551617", "9223372036854775808", "4294967297", "18446744073709551617A",
		strings.Repeat("X", 1<<20), strings.Repeat("A", 1<<20), strings.Repeat("9", 1<<20), strings.Repeat("0", 1<<20) + "1",
	} {
		name := s[:min(len(s), 20)]
		if c, err := Parse(s); c != (api.Cost{}) || err != api.ErrForm {
			t.Errorf("Parse(%q) = %v, %v", name, c, err)
		}
		if p, err := ParsePool(s); p != (api.Pool{}) || err != api.ErrForm {
			t.Errorf("ParsePool(%q) = %v, %v", name, p, err)
		}
	}
	for _, s := range []string{"X", "XX", "X1", "XR", "XX99E"} {
		if p, err := ParsePool(s); p != (api.Pool{}) || err != api.ErrForm {
			t.Errorf("ParsePool(%q) = %v, %v", s, p, err)
		}
	}
}

// clamped returns the nearest number to n from -MaxNum to MaxNum.
func clamped(n *big.Int) int {
	most := big.NewInt(api.MaxNum)
	if n.Cmp(most) > 0 {
		return api.MaxNum
	}
	if n.Cmp(new(big.Int).Neg(most)) < 0 {
		return -api.MaxNum
	}
	return int(n.Int64())
}

// P8.3
func TestValue(t *testing.T) {
	m := api.MaxNum
	xs := []int{math.MinInt, math.MinInt + 1, -m - 1, -m, -2, -1, 0, 1, 2, 3, 7, 100, m/2 - 100, m/2 - 1, m / 2, m/2 + 1, m - 200, m - 144, m - 143, m - 1, m, m + 1, 2 * m, 1 << 62, math.MaxInt - 1, math.MaxInt}
	for _, generic := range []int{0, 1, 50, 99} {
		for x := range 3 {
			someColors(2, func(color [5]int) {
				for i := range color {
					color[i] = color[i] * 9 / 2
				}
				c := api.Cost{Generic: generic, X: x, Color: color}
				for _, n := range xs {
					sum := new(big.Int).Mul(big.NewInt(int64(x)), big.NewInt(int64(max(n, 0))))
					for _, part := range append(color[:], generic) {
						sum.Add(sum, big.NewInt(int64(part)))
					}
					if got, want := Value(c, n), clamped(sum); got != want {
						t.Fatalf("Value(%v, %d) = %d, want %d", c, n, got, want)
					}
				}
			})
		}
	}
	for _, c := range badCosts() {
		for _, n := range []int{-1, 0, 1, m} {
			if got := Value(c, n); got != 0 {
				t.Errorf("Value(%v, %d) = %d of an invalid cost", c, n, got)
			}
		}
	}
}

// P8.3
func TestColors(t *testing.T) {
	someColors(2, func(color [5]int) {
		want := 0
		for i, bit := range []int{api.Amber, api.Cobalt, api.Jet, api.Ruby, api.Emerald} {
			if color[i] > 0 {
				want += bit
			}
		}
		for _, c := range []api.Cost{{Color: color}, {Generic: 99, X: 2, Color: color}} {
			if got := Colors(c); got != want {
				t.Errorf("Colors(%v) = %d, want %d", c, got, want)
			}
		}
	})
	for _, c := range badCosts() {
		if got := Colors(c); got != 0 {
			t.Errorf("Colors(%v) = %d of an invalid cost", c, got)
		}
	}
}

// P8.4
func TestAdd(t *testing.T) {
	m := api.MaxNum
	ends := []int{math.MinInt, -2 * m, -m - 1, -m, 1 - m, -5, -1, 0, 1, 5, m - 1, m, m + 1, 2 * m, math.MaxInt}
	for _, a := range ends {
		for _, b := range ends {
			sum := big.NewInt(int64(max(-m, min(a, m))))
			sum.Add(sum, big.NewInt(int64(max(-m, min(b, m)))))
			want := max(0, clamped(sum))
			for i := range 6 {
				p, q, sums := api.Pool{1, 2, 3, 4, 5, 6}, api.Pool{10, 20, 30, 40, 50, 60}, api.Pool{11, 22, 33, 44, 55, 66}
				p[i], q[i], sums[i] = a, b, want
				if got := Add(p, q); got != sums {
					t.Errorf("Add(%v, %v) = %v, want %v", p, q, got, sums)
				}
			}
		}
	}
	if got := Add(api.Pool{1, 2}, api.Pool{3, -5}); got != (api.Pool{4}) {
		t.Error(got)
	}
}

// total returns the mana of p.
func total(p api.Pool) int {
	sum := 0
	for _, n := range p {
		sum += n
	}
	return sum
}

// payAsDefined pays a valid cost from a valid pool, one mana after the other.
func payAsDefined(p api.Pool, c api.Cost, x int) (api.Pool, api.Errno) {
	for i, n := range c.Color {
		for range n {
			if p[i+1] == 0 {
				return api.Pool{}, api.ErrCost
			}
			p[i+1]--
		}
	}
	for range c.Generic + c.X*x {
		i := slices.IndexFunc(p[:], func(n int) bool { return n > 0 })
		if i < 0 {
			return api.Pool{}, api.ErrCost
		}
		p[i]--
	}
	return p, api.OK
}

// checkPay compares Pay and CanPay with the definition.
func checkPay(t *testing.T, p api.Pool, c api.Cost, x int) {
	t.Helper()
	want, wantErr := payAsDefined(p, c, x)
	got, err := Pay(p, c, x)
	if got != want || err != wantErr {
		t.Fatalf("Pay(%v, %v, %d) = %v, %v, want %v, %v", p, c, x, got, err, want, wantErr)
	}
	if CanPay(p, c, x) != (wantErr == api.OK) {
		t.Fatalf("CanPay(%v, %v, %d) = %v", p, c, x, wantErr != api.OK)
	}
	if value := Value(c, x); err == api.OK && value < api.MaxNum && total(p)-total(got) != value {
		t.Fatalf("Pay(%v, %v, %d) takes %d, not %d", p, c, x, total(p)-total(got), value)
	}
}

// P8.5, P8.6
func TestPaySmall(t *testing.T) {
	for colorless := range 3 {
		someColors(2, func(have [5]int) {
			p := api.Pool{colorless, have[0], have[1], have[2], have[3], have[4]}
			someColors(1, func(color [5]int) {
				for _, g := range []int{0, 1, 3, 8} {
					checkPay(t, p, api.Cost{Generic: g, Color: color}, 1)
				}
				checkPay(t, p, api.Cost{X: 1, Color: color}, 2)
				checkPay(t, p, api.Cost{Generic: 1, X: 2, Color: color}, 0)
				checkPay(t, p, api.Cost{Generic: 1, X: 2, Color: color}, 1)
				checkPay(t, p, api.Cost{Generic: 1, X: 2, Color: color}, 2)
			})
		})
	}
}

// P8.5, P8.6: each colour at its limit, and each sum at that of the rest of the pool.
func TestPayBorders(t *testing.T) {
	p := api.Pool{4, 9, 8, 9, 5, 3}
	someColors(1, func(extra [5]int) {
		c := api.Cost{Color: [5]int{8, 7, 8, 4, 2}}
		left := total(p)
		for i := range extra {
			c.Color[i] += extra[i]
			left -= c.Color[i]
		}
		for c.Generic = range left + 3 {
			checkPay(t, p, c, 5)
		}
		for c.Generic = range 3 {
			for c.X = range 3 {
				for x := range left + 2 {
					checkPay(t, p, c, x)
				}
			}
		}
	})
	for i := range 5 {
		q, c := api.Pool{99, 9, 9, 9, 9, 9}, api.Cost{Color: [5]int{1, 1, 1, 1, 1}}
		for q[i+1] = range 10 {
			for c.Color[i] = range 10 {
				checkPay(t, q, c, 0)
			}
		}
	}
}

// P8.5, P8.6: sums beyond MaxNum are not clamped.
func TestPayLarge(t *testing.T) {
	m := api.MaxNum
	for _, c := range []struct {
		pool api.Pool
		cost api.Cost
		x    int
		want api.Pool
		err  api.Errno
	}{
		{api.Pool{m, m, m, m, m, m}, api.Cost{X: 2}, m, api.Pool{0, 0, m, m, m, m}, api.OK},
		{api.Pool{m, m, m, m, m, m}, api.Cost{Generic: 99, X: 2, Color: [5]int{9, 9, 9, 9, 9}}, m, api.Pool{0, 0, m - 117, m - 9, m - 9, m - 9}, api.OK},
		{api.Pool{m, m}, api.Cost{X: 2}, m, api.Pool{}, api.OK},
		{api.Pool{m, m}, api.Cost{Generic: 1, X: 2}, m, api.Pool{}, api.ErrCost},
		{api.Pool{m, m}, api.Cost{X: 2, Color: [5]int{1}}, m, api.Pool{}, api.ErrCost},
		{api.Pool{m, m, 1}, api.Cost{X: 2, Color: [5]int{0, 1}}, m, api.Pool{}, api.OK},
		{api.Pool{m, m - 1}, api.Cost{X: 2}, m, api.Pool{}, api.ErrCost},
		{api.Pool{m}, api.Cost{X: 2}, m, api.Pool{}, api.ErrCost},
		{api.Pool{m}, api.Cost{X: 1}, m, api.Pool{}, api.OK},
		{api.Pool{m}, api.Cost{Generic: 1, X: 1}, m, api.Pool{}, api.ErrCost},
		{api.Pool{m}, api.Cost{Generic: 1, X: 1}, m - 1, api.Pool{}, api.OK},
		{api.Pool{}, api.Cost{}, m, api.Pool{}, api.OK},
		{api.Pool{m}, api.Cost{Generic: 99}, m, api.Pool{m - 99}, api.OK},
		{api.Pool{0, 0, 0, 0, 0, m}, api.Cost{Generic: 99, Color: [5]int{0, 0, 0, 0, 9}}, 0, api.Pool{0, 0, 0, 0, 0, m - 108}, api.OK},
	} {
		if got, err := Pay(c.pool, c.cost, c.x); got != c.want || err != c.err {
			t.Errorf("Pay(%v, %v, %d) = %v, %v, want %v, %v", c.pool, c.cost, c.x, got, err, c.want, c.err)
		}
		checkPay(t, c.pool, c.cost, c.x)
	}
}

// P8.5
func TestPayInvalid(t *testing.T) {
	check := func(p api.Pool, c api.Cost, x int, want api.Errno) {
		t.Helper()
		if got, err := Pay(p, c, x); got != (api.Pool{}) || err != want {
			t.Errorf("Pay(%v, %v, %d) = %v, %v, want %v", p, c, x, got, err, want)
		}
		if CanPay(p, c, x) != (want == api.OK) {
			t.Errorf("CanPay(%v, %v, %d) = %v", p, c, x, want != api.OK)
		}
	}
	rich := api.Pool{100, 100, 100, 100, 100, 100}
	dear := api.Cost{Generic: 99, X: 2, Color: [5]int{9, 9, 9, 9, 9}}
	for _, c := range badCosts() {
		check(rich, c, 0, api.ErrArg)
		check(api.Pool{}, c, 1, api.ErrArg)
	}
	for _, p := range badPools() {
		check(p, api.Cost{}, 0, api.ErrArg)
		check(p, dear, api.MaxNum, api.ErrArg)
	}
	for _, x := range []int{math.MinInt, -1, api.MaxNum + 1, math.MaxInt} {
		for _, c := range []api.Cost{{}, {X: 1}, dear} {
			check(rich, c, x, api.ErrArg)
			check(api.Pool{}, c, x, api.ErrArg)
		}
	}
	check(api.Pool{}, dear, 0, api.ErrCost)
	check(api.Pool{5}, api.Cost{Color: [5]int{1}}, 0, api.ErrCost)
	check(api.Pool{3}, api.Cost{X: 1}, 4, api.ErrCost)
	check(api.Pool{}, api.Cost{}, 0, api.OK)
}

// P8.2, P8.3, P8.5: the examples of the chapter.
func TestExamples(t *testing.T) {
	c, err := Parse("2AA")
	if err != api.OK || Value(c, 0) != 4 {
		t.Error("2AA:", c, err, Value(c, 0))
	}
	if c, err := Parse("XX3R"); err != api.OK || c != (api.Cost{Generic: 3, X: 2, Color: [5]int{0, 0, 0, 1, 0}}) {
		t.Error("XX3R:", c, err)
	}
	if c, err := Parse("R3"); err != api.ErrForm {
		t.Error("R3:", c, err)
	}
	c, _ = Parse("1R")
	p, _ := ParsePool("1ARR")
	if got, err := Pay(p, c, 0); err != api.OK || PoolText(got) != "AR" {
		t.Error("1R from 1ARR:", got, err)
	}
}
