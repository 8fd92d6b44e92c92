package idset

import (
	"math"
	"slices"
	"testing"
)

// eachList calls f with every list of up to size elements of the alphabet.
func eachList(alphabet []int, size int, f func(l []int)) {
	var extend func(l []int)
	extend = func(l []int) {
		f(slices.Clone(l))
		if len(l) < size {
			for _, n := range alphabet {
				extend(append(slices.Clone(l), n))
			}
		}
	}
	extend(nil)
}

// eachPair calls f with every pair of short lists, whose numbers include the ends of int.
func eachPair(f func(a, b []int)) {
	alphabet := []int{2, math.MinInt, -1, math.MaxInt}
	eachList(alphabet, 3, func(a []int) {
		eachList(alphabet, 3, func(b []int) { f(slices.Clone(a), b) })
	})
}

// occurs reports whether n occurs in l, written without the package.
func occurs(l []int, n int) bool {
	for _, e := range l {
		if e == n {
			return true
		}
	}
	return false
}

// increases reports whether l is strictly increasing, written without the package.
func increases(l []int) bool {
	for i := range l {
		for j := range i {
			if l[j] >= l[i] {
				return false
			}
		}
	}
	return true
}

// isSetOf reports whether got is strictly increasing and has exactly the numbers of the candidates that belong.
func isSetOf(got, candidates []int, belongs func(n int) bool) bool {
	for _, n := range candidates {
		if occurs(got, n) != belongs(n) {
			return false
		}
	}
	for _, n := range got {
		if !occurs(candidates, n) {
			return false
		}
	}
	return increases(got)
}

func TestIs(t *testing.T) { // P3.1
	for _, l := range [][]int{
		nil, {}, {0}, {-5}, {math.MinInt}, {math.MaxInt}, {1, 2}, {1, 3, 7}, {-3, -1, 0, 4}, {1, 1000000},
		{math.MinInt, math.MaxInt}, {math.MinInt, -1, 0, 1, math.MaxInt}, {math.MaxInt - 1, math.MaxInt},
	} {
		if !Is(l) {
			t.Errorf("Is(%v) = false", l)
		}
	}
}

func TestIsRejects(t *testing.T) { // P3.1
	for _, l := range [][]int{
		{1, 1}, {2, 1}, {0, 0}, {1, 2, 2}, {1, 1, 2}, {1, 3, 2}, {2, 1, 3}, {3, 1, 3}, {1, 2, 3, 1}, {-1, -2}, {0, -1},
		{math.MaxInt, math.MinInt}, {math.MaxInt, math.MaxInt}, {math.MinInt, math.MinInt}, {1, 2, 3, 4, 5, 5},
	} {
		if Is(l) {
			t.Errorf("Is(%v) = true", l)
		}
	}
}

func TestOf(t *testing.T) { // P3.1
	for _, c := range []struct{ l, want []int }{
		{nil, nil}, {[]int{}, nil}, {[]int{7}, []int{7}}, {[]int{7, 7, 7}, []int{7}},
		{[]int{3, 1, 3}, []int{1, 3}}, {[]int{1, 2, 3}, []int{1, 2, 3}}, {[]int{3, 2, 1}, []int{1, 2, 3}},
		{[]int{2, 10, 1, 9}, []int{1, 2, 9, 10}}, {[]int{0, -1, 1, -1, 0}, []int{-1, 0, 1}}, {[]int{0, 0}, []int{0}},
		{[]int{math.MaxInt, 0, math.MinInt, math.MaxInt}, []int{math.MinInt, 0, math.MaxInt}},
	} {
		if got := Of(c.l); !slices.Equal(got, c.want) {
			t.Errorf("Of(%v) = %v, want %v", c.l, got, c.want)
		}
	}
}

func TestIsAndOfOfEveryShortList(t *testing.T) { // P3.1
	eachList([]int{1, 2, 3, 4}, 5, func(l []int) {
		if got := Is(l); got != increases(l) {
			t.Errorf("Is(%v) = %v", l, got)
		}
		if got := Of(l); !isSetOf(got, l, func(int) bool { return true }) {
			t.Errorf("Of(%v) = %v", l, got)
		}
	})
}

func TestOfALongList(t *testing.T) { // P3.1
	const size = 100000
	var l []int
	for i := range size {
		l = append(l, i*7919%size/2)
	}
	got := Of(l)
	if len(got) != size/2 || !Is(got) || got[0] != 0 || got[len(got)-1] != size/2-1 {
		t.Errorf("Of a long list has %d elements", len(got))
	}
}

func TestHasAndIndex(t *testing.T) { // P3.2
	l := []int{5, 3, 5, -2, 0, 3, math.MinInt, math.MaxInt}
	for n, want := range map[int]int{
		5: 0, 3: 1, -2: 3, 0: 4, math.MinInt: 6, math.MaxInt: 7,
		1: -1, 2: -1, -1: -1, 4: -1, -5: -1, math.MaxInt - 1: -1, math.MinInt + 1: -1,
	} {
		if got := Index(l, n); got != want {
			t.Errorf("Index(%v, %d) = %d, want %d", l, n, got, want)
		}
		if got := Has(l, n); got != (want >= 0) {
			t.Errorf("Has(%v, %d) = %v", l, n, got)
		}
	}
	for _, n := range []int{0, -1, 1, math.MinInt, math.MaxInt} {
		if Has(nil, n) || Has([]int{}, n) || Index(nil, n) != -1 || Index([]int{}, n) != -1 {
			t.Errorf("%d is an element of an empty list", n)
		}
	}
}

func TestWithout(t *testing.T) { // P3.2
	for _, c := range []struct {
		l    []int
		n    int
		want []int
	}{
		{nil, 0, nil}, {[]int{}, 1, nil}, {[]int{1}, 1, nil}, {[]int{1, 1, 1}, 1, nil}, {[]int{1}, 2, []int{1}},
		{[]int{3, 1, 2, 1}, 1, []int{3, 2}}, {[]int{1, 3, 3, 2}, 1, []int{3, 3, 2}}, {[]int{3, 2, 1}, 1, []int{3, 2}},
		{[]int{2, 2, 1, 3}, 5, []int{2, 2, 1, 3}}, {[]int{0, -1, 0}, 0, []int{-1}}, {[]int{0, 1}, -1, []int{0, 1}},
		{[]int{math.MaxInt, 0, math.MinInt}, math.MinInt, []int{math.MaxInt, 0}},
	} {
		if got := Without(c.l, c.n); !slices.Equal(got, c.want) {
			t.Errorf("Without(%v, %d) = %v, want %v", c.l, c.n, got, c.want)
		}
	}
}

func TestWithoutOfEveryShortList(t *testing.T) { // P3.2
	eachList([]int{1, 2, 3}, 5, func(l []int) {
		for n := range 5 {
			var want []int
			first := -1
			for i, e := range l {
				if e != n {
					want = append(want, e)
				} else if first < 0 {
					first = i
				}
			}
			if got := Without(l, n); !slices.Equal(got, want) {
				t.Errorf("Without(%v, %d) = %v, want %v", l, n, got, want)
			}
			if Index(l, n) != first || Has(l, n) != (first >= 0) {
				t.Errorf("Index or Has of %v and %d is wrong", l, n)
			}
		}
	})
}

func TestUnionMeetMinus(t *testing.T) { // P3.3
	for _, c := range []struct{ a, b, union, meet, minus []int }{
		{nil, nil, nil, nil, nil},
		{[]int{}, nil, nil, nil, nil},
		{[]int{1, 2}, nil, []int{1, 2}, nil, []int{1, 2}},
		{nil, []int{1, 2}, []int{1, 2}, nil, nil},
		{[]int{2, 1, 2}, nil, []int{1, 2}, nil, []int{1, 2}},
		{nil, []int{2, 1, 2}, []int{1, 2}, nil, nil},
		{[]int{1, 2, 3}, []int{2}, []int{1, 2, 3}, []int{2}, []int{1, 3}},
		{[]int{2}, []int{1, 2, 3}, []int{1, 2, 3}, []int{2}, nil},
		{[]int{1, 3, 5}, []int{2, 4, 6}, []int{1, 2, 3, 4, 5, 6}, nil, []int{1, 3, 5}},
		{[]int{5, 3, 5, 1}, []int{4, 3, 3}, []int{1, 3, 4, 5}, []int{3}, []int{1, 5}},
		{[]int{3, 2, 1}, []int{1, 2, 3}, []int{1, 2, 3}, []int{1, 2, 3}, nil},
		{[]int{7, 7}, []int{7, 7, 7}, []int{7}, []int{7}, nil},
		{[]int{0, -1}, []int{-1, 1}, []int{-1, 0, 1}, []int{-1}, []int{0}},
		{[]int{math.MaxInt, math.MinInt}, []int{0, math.MinInt}, []int{math.MinInt, 0, math.MaxInt}, []int{math.MinInt}, []int{math.MaxInt}},
	} {
		if got := Union(c.a, c.b); !slices.Equal(got, c.union) {
			t.Errorf("Union(%v, %v) = %v, want %v", c.a, c.b, got, c.union)
		}
		if got := Meet(c.a, c.b); !slices.Equal(got, c.meet) {
			t.Errorf("Meet(%v, %v) = %v, want %v", c.a, c.b, got, c.meet)
		}
		if got := Minus(c.a, c.b); !slices.Equal(got, c.minus) {
			t.Errorf("Minus(%v, %v) = %v, want %v", c.a, c.b, got, c.minus)
		}
	}
}

func TestUnionMeetMinusOfEveryShortPair(t *testing.T) { // P3.3
	eachPair(func(a, b []int) {
		both := slices.Concat(a, b)
		if got := Union(a, b); !isSetOf(got, both, func(int) bool { return true }) {
			t.Errorf("Union(%v, %v) = %v", a, b, got)
		}
		if got := Meet(a, b); !isSetOf(got, both, func(n int) bool { return occurs(a, n) && occurs(b, n) }) {
			t.Errorf("Meet(%v, %v) = %v", a, b, got)
		}
		if got := Minus(a, b); !isSetOf(got, both, func(n int) bool { return occurs(a, n) && !occurs(b, n) }) {
			t.Errorf("Minus(%v, %v) = %v", a, b, got)
		}
	})
}

func TestSame(t *testing.T) { // P3.4
	for _, c := range []struct {
		a, b []int
		want bool
	}{
		{nil, nil, true}, {nil, []int{}, true}, {[]int{}, nil, true}, {[]int{}, []int{}, true},
		{[]int{0}, []int{0}, true}, {[]int{3, 1, 3}, []int{3, 1, 3}, true},
		{[]int{math.MinInt, math.MaxInt}, []int{math.MinInt, math.MaxInt}, true},
		{nil, []int{0}, false}, {[]int{0}, nil, false}, {[]int{0}, []int{0, 0}, false}, {[]int{0, 0}, []int{0}, false},
		{[]int{1, 2}, []int{2, 1}, false}, {[]int{1, 2, 3}, []int{1, 2}, false}, {[]int{1, 2}, []int{1, 2, 3}, false},
		{[]int{1, 2}, []int{1, 3}, false}, {[]int{1, 2}, []int{3, 2}, false}, {[]int{1, 1, 2}, []int{1, 2, 2}, false},
		{[]int{1}, []int{-1}, false}, {[]int{math.MinInt}, []int{math.MaxInt}, false},
	} {
		if got := Same(c.a, c.b); got != c.want {
			t.Errorf("Same(%v, %v) = %v", c.a, c.b, got)
		}
	}
}

func TestMeetAndMinusDivideTheSet(t *testing.T) { // P3.5
	eachPair(func(a, b []int) {
		meet, minus := Meet(a, b), Minus(a, b)
		if got := Meet(meet, minus); len(got) != 0 {
			t.Errorf("Meet and Minus of %v and %v share %v", a, b, got)
		}
		if got := Union(meet, minus); !Same(got, Of(a)) {
			t.Errorf("the union of Meet and Minus of %v and %v is %v", a, b, got)
		}
	})
}

// roomy returns the numbers in a slice with unused capacity, which a careless append would write to.
func roomy(numbers ...int) []int {
	return append(make([]int, 0, 4*len(numbers)), numbers...)
}

func TestResultsAreNewMemory(t *testing.T) { // P3.1 to P3.3 and rule 4
	for name, f := range map[string]func(a, b []int) []int{
		"Of":      func(a, b []int) []int { return Of(a) },
		"Without": func(a, b []int) []int { return Without(a, 9) },
		"first":   func(a, b []int) []int { return Without(a, a[0]) },
		"Union":   Union, "Meet": Meet, "Minus": Minus,
		"turned": func(a, b []int) []int { return Union(b, a) },
		"nil":    func(a, b []int) []int { return Union(nil, a) },
		"all":    func(a, b []int) []int { return Union(a, nil) },
		"itself": func(a, b []int) []int { return Meet(a, a) },
		"none":   func(a, b []int) []int { return Minus(a, nil) },
	} {
		for _, a := range [][]int{roomy(1, 2, 3), roomy(3, 1, 3, 2)} {
			b := roomy(2, 1, 2)
			wholeA, wholeB := a[:cap(a)], b[:cap(b)]
			givenA, givenB := slices.Clone(wholeA), slices.Clone(wholeB)
			got := f(a, b)
			again := slices.Clone(got)
			for i := range got[:cap(got)] {
				got[:cap(got)][i] = 99
			}
			if !slices.Equal(wholeA, givenA) || !slices.Equal(wholeB, givenB) {
				t.Errorf("%s: an argument was changed, or the result shares memory with it", name)
			}
			if !slices.Equal(f(a, b), again) {
				t.Errorf("%s: a change of a result changes a later one", name)
			}
		}
	}
}

func TestExamples(t *testing.T) {
	if !slices.Equal(Of([]int{3, 1, 3}), []int{1, 3}) || !slices.Equal(Minus([]int{1, 2, 3}, []int{2}), []int{1, 3}) {
		t.Error("an example of the chapter fails")
	}
}
