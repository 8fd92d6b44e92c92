package depend

import (
	"math"
	"slices"
	"testing"
)

// cell returns needs[i][j], or false if it does not exist.
func cell(needs [][]bool, i, j int) bool {
	return i >= 0 && j >= 0 && i < len(needs) && j < len(needs[i]) && needs[i][j]
}

// leads reports whether i leads to j among the elements of left, found by spreading from i until nothing is added.
func leads(left []int, needs [][]bool, i, j int) bool {
	reached := []int{}
	for added := true; added; {
		added = false
		for _, e := range left {
			from := cell(needs, i, e)
			for _, r := range reached {
				from = from || cell(needs, r, e)
			}
			if from && !slices.Contains(reached, e) {
				reached = append(reached, e)
				added = true
			}
		}
	}
	return slices.Contains(reached, j)
}

// readyAsDefined returns what the chapter says of Ready.
func readyAsDefined(left []int, needs [][]bool) []int {
	var ready []int
	for _, i := range left {
		ok := i >= 0 && !slices.Contains(ready, i)
		for _, j := range left {
			ok = ok && (j == i || !cell(needs, i, j) || leads(left, needs, j, i))
		}
		if ok {
			ready = append(ready, i)
		}
	}
	return ready
}

// nextAsDefined returns what the chapter says of Next.
func nextAsDefined(left, stamps []int, needs [][]bool) int {
	stamp := func(i int) int {
		if i < len(stamps) {
			return stamps[i]
		}
		return 0
	}
	best := -1
	for _, i := range readyAsDefined(left, needs) {
		if best == -1 || stamp(i) < stamp(best) || stamp(i) == stamp(best) && i < best {
			best = i
		}
	}
	return best
}

// orderAsDefined returns what the chapter says of Order.
func orderAsDefined(stamps []int, needs [][]bool) []int {
	var left, order []int
	for i := range stamps {
		left = append(left, i)
	}
	for len(left) > 0 {
		next := nextAsDefined(left, stamps, needs)
		order = append(order, next)
		left = slices.DeleteFunc(left, func(i int) bool { return i == next })
	}
	return order
}

// square returns the needs of size elements whose cells are the bits of mask, row by row.
func square(size, mask int) [][]bool {
	needs := make([][]bool, size)
	for i := range size * size {
		needs[i/size] = append(needs[i/size], mask>>i&1 == 1)
	}
	return needs
}

// apart returns the needs of 4 elements whose cells beside the diagonal are the bits of mask.
func apart(mask int) [][]bool {
	needs := square(4, 0)
	for i := range 12 {
		row, column := i/3, i%3
		if column >= row {
			column++
		}
		needs[row][column] = mask>>i&1 == 1
	}
	return needs
}

// pairs returns needs where the first element of each pair needs the second, with rows as short as possible.
func pairs(list ...[2]int) [][]bool {
	var needs [][]bool
	for _, p := range list {
		for len(needs) <= p[0] {
			needs = append(needs, nil)
		}
		for len(needs[p[0]]) <= p[1] {
			needs[p[0]] = append(needs[p[0]], false)
		}
		needs[p[0]][p[1]] = true
	}
	return needs
}

// eachList calls f with every list of up to size elements of the alphabet.
func eachList(alphabet []int, size int, f func(l []int)) {
	var extend func(l []int)
	extend = func(l []int) {
		f(slices.Clone(l))
		if len(l) < size {
			for _, n := range alphabet {
				extend(append(slices.Clone(l), n))
			}
		}
	}
	extend(nil)
}

// numbers returns a function whose results look random and lie below its argument.
func numbers(seed uint64) func(n int) int {
	return func(n int) int {
		seed = seed*6364136223846793005 + 1442695040888963407
		return int(seed >> 33 % uint64(n))
	}
}

// random returns stamps and ragged needs of at most 9 elements; of density cells in ten, about one is true.
func random(below func(n int) int) (stamps []int, needs [][]bool) {
	size, density := below(10), 1+below(10)
	for range size {
		stamps = append(stamps, below(5)-2)
	}
	for range below(size + 3) {
		var row []bool
		for range below(size + 3) {
			row = append(row, below(10) < density)
		}
		needs = append(needs, row)
	}
	return stamps, needs
}

func TestReady(t *testing.T) { // P7.1
	for _, c := range []struct {
		name  string
		left  []int
		needs [][]bool
		want  []int
	}{
		{name: "nothing"},
		{name: "no needs", left: []int{4, 0, 2}, want: []int{4, 0, 2}},
		{name: "one need", left: []int{0, 1, 2}, needs: pairs([2]int{0, 1}), want: []int{1, 2}},
		{name: "the order of left", left: []int{2, 1, 0}, needs: pairs([2]int{0, 1}), want: []int{2, 1}},
		{name: "needs of what is not left", left: []int{0, 2}, needs: pairs([2]int{0, 1}, [2]int{2, 3}), want: []int{0, 2}},
		{name: "itself", left: []int{0, 1}, needs: pairs([2]int{0, 0}, [2]int{1, 0}), want: []int{0}},
		{name: "a loop of two", left: []int{0, 1}, needs: pairs([2]int{0, 1}, [2]int{1, 0}), want: []int{0, 1}},
		{name: "a loop of three", left: []int{2, 0, 1}, needs: pairs([2]int{0, 1}, [2]int{1, 2}, [2]int{2, 0}), want: []int{2, 0, 1}},
		{name: "a loop through what is not left", left: []int{0, 1}, needs: pairs([2]int{0, 1}, [2]int{1, 2}, [2]int{2, 0}), want: []int{1}},
		{name: "a loop that waits at one element", left: []int{0, 1, 2}, needs: pairs([2]int{0, 1}, [2]int{1, 0}, [2]int{1, 2}), want: []int{0, 2}},
		{name: "an element that waits for a loop", left: []int{0, 1, 2}, needs: pairs([2]int{0, 1}, [2]int{1, 2}, [2]int{2, 1}), want: []int{1, 2}},
		{name: "two loops", left: []int{0, 1, 2, 3}, needs: pairs([2]int{0, 1}, [2]int{1, 0}, [2]int{2, 3}, [2]int{3, 2}), want: []int{0, 1, 2, 3}},
		{name: "a loop that needs another", left: []int{0, 1, 2, 3}, needs: pairs([2]int{0, 1}, [2]int{1, 0}, [2]int{2, 3}, [2]int{3, 2}, [2]int{0, 2}), want: []int{1, 2, 3}},
		{name: "two loops that share an element", left: []int{0, 1, 2}, needs: pairs([2]int{0, 1}, [2]int{1, 0}, [2]int{0, 2}, [2]int{2, 0}), want: []int{0, 1, 2}},
		{name: "a shorter way", left: []int{0, 1, 2}, needs: pairs([2]int{0, 1}, [2]int{1, 2}, [2]int{0, 2}), want: []int{2}},
		{name: "two ways to one element", left: []int{0, 1, 2, 3}, needs: pairs([2]int{0, 1}, [2]int{0, 2}, [2]int{1, 3}, [2]int{2, 3}), want: []int{3}},
		{name: "elements more than once", left: []int{1, 0, 1, 1, 0, 2}, needs: pairs([2]int{2, 1}), want: []int{1, 0}},
		{name: "a need more than once", left: []int{1, 0, 1, 0}, needs: pairs([2]int{0, 1}), want: []int{1}},
		{name: "only negative elements", left: []int{-1, math.MinInt, -1}, needs: square(2, 15)},
		{name: "negative elements", left: []int{-1, 1, -2, 0}, needs: pairs([2]int{1, 0}), want: []int{0}},
		{name: "elements without a row", left: []int{math.MaxInt, 2, 1 << 40, 0}, needs: pairs([2]int{0, 2}), want: []int{math.MaxInt, 2, 1 << 40}},
		{name: "elements beyond a row", left: []int{1, 0, 7}, needs: [][]bool{{false, true}, {true}}, want: []int{1, 0, 7}},
		{name: "empty rows", left: []int{0, 1, 2}, needs: [][]bool{nil, {}, {true}}, want: []int{0, 1}},
	} {
		if got := Ready(c.left, c.needs); !slices.Equal(got, c.want) {
			t.Errorf("%s: Ready(%v, %v) = %v, want %v", c.name, c.left, c.needs, got, c.want)
		}
	}
}

func TestReadyOfEveryShortList(t *testing.T) { // P7.1
	for mask := range 1 << 9 {
		needs := square(3, mask)
		eachList([]int{1, 0, -1, 2}, 3, func(left []int) {
			if got, want := Ready(left, needs), readyAsDefined(left, needs); !slices.Equal(got, want) {
				t.Errorf("Ready(%v, %v) = %v, want %v", left, needs, got, want)
			}
		})
	}
}

func TestReadyAsDefined(t *testing.T) { // P7.1
	below := numbers(1)
	for range 20000 {
		stamps, needs := random(below)
		var left []int
		for range below(14) {
			left = append(left, below(len(stamps)+4)-1)
		}
		if got, want := Ready(left, needs), readyAsDefined(left, needs); !slices.Equal(got, want) {
			t.Errorf("Ready(%v, %v) = %v, want %v", left, needs, got, want)
		}
		if got, want := Next(left, stamps, needs), nextAsDefined(left, stamps, needs); got != want {
			t.Errorf("Next(%v, %v, %v) = %d, want %d", left, stamps, needs, got, want)
		}
	}
}

func TestNext(t *testing.T) { // P7.2
	for _, c := range []struct {
		left, stamps []int
		needs        [][]bool
		want         int
	}{
		{nil, nil, nil, -1},
		{nil, []int{1, 2}, square(2, 15), -1},
		{[]int{}, []int{1}, nil, -1},
		{[]int{-1, -5, math.MinInt}, []int{1}, square(1, 1), -1},
		{[]int{0}, []int{9}, nil, 0},
		{[]int{-1, 2}, []int{1, 2, 3}, nil, 2},
		{[]int{0, 1, 2}, []int{3, 1, 2}, nil, 1},
		{[]int{0, 2}, []int{3, 1, 2}, nil, 2},
		{[]int{2, 1, 0}, []int{5, 5, 5}, nil, 0},
		{[]int{2, 1, 2}, []int{5, 5, 5}, nil, 1},
		{[]int{3, 1, 2}, []int{1, 7, 4, 4}, nil, 2},
		{[]int{0, 1}, []int{1, 2}, pairs([2]int{0, 1}), 1},
		{[]int{0, 1}, []int{2, 1}, pairs([2]int{0, 1}, [2]int{1, 0}), 1},
		{[]int{0, 1}, []int{1, 2}, pairs([2]int{0, 1}, [2]int{1, 0}), 0},
		{[]int{0, 1, 2}, []int{0, 1000001, -1000001}, nil, 2},
		{[]int{0, 1}, []int{math.MaxInt, math.MinInt}, nil, 1},
		{[]int{0, 1}, []int{math.MinInt, math.MaxInt}, nil, 0},
		{[]int{0, 5}, []int{1}, nil, 5},
		{[]int{0, 5}, []int{-1}, nil, 0},
		{[]int{5, 0}, []int{0}, nil, 0},
		{[]int{9, 8, 7}, nil, nil, 7},
		{[]int{math.MaxInt, math.MaxInt - 1}, []int{1}, nil, math.MaxInt - 1},
		{[]int{1, math.MaxInt}, []int{1, 1}, nil, math.MaxInt},
	} {
		if got := Next(c.left, c.stamps, c.needs); got != c.want {
			t.Errorf("Next(%v, %v, %v) = %d, want %d", c.left, c.stamps, c.needs, got, c.want)
		}
	}
}

func TestOrder(t *testing.T) { // P7.3
	for _, c := range []struct {
		stamps []int
		needs  [][]bool
		want   []int
	}{
		{nil, nil, nil},
		{[]int{}, square(3, 511), nil},
		{[]int{7}, nil, []int{0}},
		{[]int{7}, square(1, 1), []int{0}},
		{[]int{2, 1}, nil, []int{1, 0}},
		{[]int{0, -1, 1, -1}, nil, []int{1, 3, 0, 2}},
		{[]int{math.MaxInt, 0, math.MinInt}, nil, []int{2, 1, 0}},
		{[]int{1, 2, 3}, pairs([2]int{0, 1}, [2]int{1, 2}), []int{2, 1, 0}},
		{[]int{1, 2, 3, 4}, pairs([2]int{0, 3}), []int{1, 2, 3, 0}},
		{[]int{3, 2, 1}, square(3, 511), []int{2, 1, 0}},
		{[]int{1, 2, 3}, pairs([2]int{0, 1}, [2]int{1, 2}, [2]int{2, 0}), []int{0, 2, 1}},
		{[]int{1, 2, 3, 4}, pairs([2]int{0, 1}, [2]int{1, 0}, [2]int{1, 3}), []int{0, 2, 3, 1}},
		{[]int{1, 2, 3, 4}, pairs([2]int{0, 1}, [2]int{1, 0}, [2]int{0, 2}, [2]int{1, 2}, [2]int{2, 3}), []int{3, 2, 0, 1}},
		{[]int{1, 2}, [][]bool{{false, false, true}, nil, {true}, {true, true}}, []int{0, 1}},
		{[]int{1, 2}, [][]bool{{}, {}, {true, true, true}}, []int{0, 1}},
	} {
		if got := Order(c.stamps, c.needs); !slices.Equal(got, c.want) {
			t.Errorf("Order(%v, %v) = %v, want %v", c.stamps, c.needs, got, c.want)
		}
	}
}

func TestOrderOfFourElements(t *testing.T) { // P7.3
	for mask := range 1 << 12 {
		needs := apart(mask)
		for _, stamps := range [][]int{{1, 2, 3, 4}, {4, 3, 2, 1}, {2, 2, 1, 1}, {0, 0, 0, 0}, {3, -1, 3, -2}} {
			if got, want := Order(stamps, needs), orderAsDefined(stamps, needs); !slices.Equal(got, want) {
				t.Errorf("Order(%v, %v) = %v, want %v", stamps, needs, got, want)
			}
		}
	}
}

func TestOrderAsDefined(t *testing.T) { // P7.3
	below := numbers(2)
	for range 5000 {
		stamps, needs := random(below)
		if got, want := Order(stamps, needs), orderAsDefined(stamps, needs); !slices.Equal(got, want) {
			t.Errorf("Order(%v, %v) = %v, want %v", stamps, needs, got, want)
		}
	}
}

func TestOrderIsThatOfNext(t *testing.T) { // P7.3
	below := numbers(3)
	for range 5000 {
		stamps, needs := random(below)
		var left, want []int
		for i := range stamps {
			left = append(left, i)
		}
		for len(left) > 0 {
			next := Next(left, stamps, needs)
			want = append(want, next)
			left = slices.DeleteFunc(left, func(i int) bool { return i == next })
		}
		if got := Order(stamps, needs); !slices.Equal(got, want) {
			t.Errorf("Order(%v, %v) = %v, Next selects %v", stamps, needs, got, want)
		}
	}
}

func TestThereIsAReadyElement(t *testing.T) { // P7.4
	below := numbers(4)
	for range 5000 {
		stamps, needs := random(below)
		left := []int{-1, below(10), -7}
		for range below(10) {
			left = append(left, below(12)-2)
		}
		if len(Ready(left, needs)) == 0 || Next(left, stamps, needs) < 0 {
			t.Errorf("no element of %v is ready with %v", left, needs)
		}
	}
}

func TestOrderWithoutLoops(t *testing.T) { // P7.4
	below := numbers(5)
	for range 5000 {
		stamps, needs := random(below)
		for i, row := range needs {
			for j := range row {
				row[j] = row[j] && (i*7+3)%11 < (j*7+3)%11
			}
		}
		order := Order(stamps, needs)
		for at, i := range order {
			for _, later := range order[at:] {
				if cell(needs, i, later) {
					t.Errorf("Order(%v, %v) = %v", stamps, needs, order)
				}
			}
		}
	}
}

func TestOrderWithoutNeeds(t *testing.T) { // P7.4
	below := numbers(6)
	for size := range 40 {
		stamps, want := make([]int, size), make([]int, size)
		for i := range size {
			stamps[i], want[i] = below(30)-15, i
		}
		slices.SortStableFunc(want, func(a, b int) int { return stamps[a] - stamps[b] })
		for _, needs := range [][][]bool{nil, {}, make([][]bool, size+1), square(min(size, 5), 0)} {
			if got := Order(stamps, needs); !slices.Equal(got, want) {
				t.Errorf("Order(%v, %v) = %v, want %v", stamps, needs, got, want)
			}
		}
	}
}

func TestManyElements(t *testing.T) { // P7.1, P7.3
	const size = 600
	up, stamps := make([]int, size), make([]int, size)
	for i := range size {
		up[i] = i
	}
	down := slices.Clone(up)
	slices.Reverse(down)
	for _, c := range []struct {
		name        string
		needs       func(i, j int) bool
		ready, want []int
	}{
		{"each needs the next", func(i, j int) bool { return j == i+1 }, []int{size - 1}, down},
		{"each needs the one before", func(i, j int) bool { return j == i-1 }, []int{0}, up},
		{"each needs all later ones", func(i, j int) bool { return j > i }, []int{size - 1}, down},
		{"each needs all earlier ones", func(i, j int) bool { return j < i }, []int{0}, up},
		{"one loop", func(i, j int) bool { return j == (i+1)%size }, up, append([]int{0}, down[:size-1]...)},
		{"one loop, the other way", func(i, j int) bool { return i == (j+1)%size }, up, up},
		{"all need all", func(i, j int) bool { return true }, up, up},
	} {
		needs := make([][]bool, size)
		for i := range size * size {
			needs[i/size] = append(needs[i/size], c.needs(i/size, i%size))
		}
		if got := Ready(up, needs); !slices.Equal(got, c.ready) {
			t.Errorf("%s: %d elements are ready", c.name, len(got))
		}
		if got := Order(stamps, needs); !slices.Equal(got, c.want) {
			t.Errorf("%s: another order", c.name)
		}
	}
}

func TestLongPath(t *testing.T) { // P7.1, P7.2
	const size = 20000
	row := make([]bool, size) // the rows share its end, so that each one ends with the next element
	row[size-1] = true
	left, needs := make([]int, size), make([][]bool, size)
	for i := range size {
		left[i] = i
		needs[i] = row[max(0, size-i-2):]
	}
	needs[size-1] = nil
	if got := Ready(left, needs); !slices.Equal(got, []int{size - 1}) || Next(left, nil, needs) != size-1 {
		t.Errorf("%d elements are ready", len(got))
	}
	needs[size-1] = []bool{true}
	if got := Ready(left, needs); !slices.Equal(got, left) || Next(left, nil, needs) != 0 {
		t.Errorf("%d elements of a loop are ready", len(got))
	}
}

func TestMemory(t *testing.T) { // rule 4 of DOC.md
	spare := func() []int { return append(make([]int, 0, 16), 2, 0, 1, 0, -1, 3) }
	left, stamps := spare(), []int{3, 1, 2, 1}
	needs := pairs([2]int{0, 2}, [2]int{2, 1}, [2]int{1, 2})
	results := func() [][]int {
		return [][]int{Ready(left, needs), Ready(left, nil), Ready(left[1:3], nil), Order(stamps, needs), Order(stamps, nil)}
	}
	first, again := results(), results()
	Next(left, stamps, needs)
	for _, l := range first {
		clear(l[:cap(l)])
	}
	for i, want := range [][]int{{2, 1, 3}, {2, 0, 1, 3}, {0, 1}, {1, 3, 2, 0}, {1, 3, 2, 0}} {
		if !slices.Equal(again[i], want) {
			t.Errorf("result %d is %v, want %v", i, again[i], want)
		}
	}
	same := slices.EqualFunc(needs, pairs([2]int{0, 2}, [2]int{2, 1}, [2]int{1, 2}), slices.Equal[[]bool])
	if !same || !slices.Equal(left[:16], spare()[:16]) || !slices.Equal(stamps, []int{3, 1, 2, 1}) {
		t.Errorf("arguments are changed to %v, %v, %v", left[:16], stamps, needs)
	}
}

func TestExamples(t *testing.T) {
	needs := [][]bool{{false, false, true}}
	if got := Order([]int{1, 2, 3}, needs); !slices.Equal(got, []int{1, 2, 0}) {
		t.Errorf("0 needs 2: %v", got)
	}
	needs = [][]bool{{false, false, true}, {}, {true}}
	if got := Order([]int{1, 2, 3}, needs); !slices.Equal(got, []int{0, 1, 2}) {
		t.Errorf("2 needs 0, too: %v", got)
	}
}
