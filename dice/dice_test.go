package dice

import (
	"math"
	"math/big"
	"slices"
	"strings"
	"testing"
)

// gamma is the difference between a seed and the next one.
const gamma = 0x9E3779B97F4A7C15

// seeds are the ends of uint64, every power of two and its neighbours, those before 2^64 - 1, 0 and 2^63, and many others.
func seeds() []uint64 {
	l := []uint64{99, 1234567, 0x61C8864680B583EA, 0x61C8864680B583EB, 0xE1C8864680B583EB}
	for i := range 64 {
		power := uint64(1) << i
		l = append(l, power-1, power, power+1, -power)
	}
	for i := range uint64(500) {
		l = append(l, 12345+i*gamma, i*0x0123456789ABCDEF)
	}
	return l
}

// hexadecimal returns the number that s writes.
func hexadecimal(s string) *big.Int {
	n, _ := new(big.Int).SetString(s, 16)
	return n
}

// reduced returns n modulo 2^64.
func reduced(n *big.Int) *big.Int {
	return n.Mod(n, hexadecimal("1"+strings.Repeat("0", 16)))
}

// combined returns z combined with itself shifted right.
func combined(z *big.Int, shift uint) *big.Int {
	return new(big.Int).Xor(z, new(big.Int).Rsh(z, shift))
}

// defined returns what the chapter says of Next, computed with numbers of any size.
func defined(seed uint64) (uint64, uint64) {
	next := reduced(new(big.Int).Add(new(big.Int).SetUint64(seed), hexadecimal("9E3779B97F4A7C15")))
	z := combined(next, 30)
	z = combined(reduced(z.Mul(z, hexadecimal("BF58476D1CE4E5B9"))), 27)
	z = combined(reduced(z.Mul(z, hexadecimal("94D049BB133111EB"))), 31)
	return z.Uint64(), next.Uint64()
}

func TestNext(t *testing.T) { // P6.1
	for _, c := range []struct {
		seed uint64
		want [5]uint64
	}{
		{0, [5]uint64{0xe220a8397b1dcdaf, 0x6e789e6aa1b965f4, 0x06c45d188009454f, 0xf88bb8a8724c81ec, 0x1b39896a51a8749b}},
		{1, [5]uint64{0x910a2dec89025cc1, 0xbeeb8da1658eec67, 0xf893a2eefb32555e, 0x71c18690ee42c90b, 0x71bb54d8d101b5b9}},
		{1234567, [5]uint64{0x599ed017fb08fc85, 0x2c73f08458540fa5, 0x883ebce5a3f27c77, 0x3fbef740e9177b3f, 0xe3b8346708cb5ecd}},
		{math.MaxUint64, [5]uint64{0xe4d971771b652c20, 0xe99ff867dbf682c9, 0x382ff84cb27281e9, 0x6d1db36ccba982d2, 0xb4a0472e578069ae}},
		{1 << 63, [5]uint64{0x481ec0a212a9f3db, 0xc46fa638a6309012, 0x61a685ffc80a8140, 0x592e268383e356f9, 0x0c8881ee746884d3}},
		{0x61c8864680b583eb, [5]uint64{0, 0xe220a8397b1dcdaf, 0x6e789e6aa1b965f4, 0x06c45d188009454f, 0xf88bb8a8724c81ec}},
	} {
		seed := c.seed
		for i, want := range c.want {
			z, next := Next(seed)
			if z != want || next != seed+gamma {
				t.Errorf("number %d of seed %x: Next(%x) = %x, %x, want %x", i, c.seed, seed, z, next, want)
			}
			seed = next
		}
	}
}

func TestNextAsDefined(t *testing.T) { // P6.1
	for _, seed := range seeds() {
		z, next := Next(seed)
		if wantZ, wantNext := defined(seed); z != wantZ || next != wantNext {
			t.Errorf("Next(%x) = %x, %x, want %x, %x", seed, z, next, wantZ, wantNext)
		}
	}
}

func TestBelow(t *testing.T) { // P6.2
	for _, c := range []struct {
		seed uint64
		n    int
		want int
	}{
		{0, 1, 0}, {0, 2, 1}, {0, 7, 2}, {1, 6, 5}, {99, 7, 2}, {math.MaxUint64, 10, 6}, {5, 1000000, 358618},
		{1234567, 256, 133}, {1234567, 1 << 32, 4211670149}, {0x61c8864680b583eb, 7, 0},
		{0, math.MaxInt, 7070836379803831728}, {0, math.MaxInt - 1, 7070836379803831729},
	} {
		if got, next := Below(c.seed, c.n); got != c.want || next != c.seed+gamma {
			t.Errorf("Below(%x, %d) = %d, %x, want %d", c.seed, c.n, got, next, c.want)
		}
	}
}

func TestBelowAsDefined(t *testing.T) { // P6.2
	bounds := []int{1, 2, 3, 4, 5, 6, 7, 10, 60, 64, 100, 256, 1000000, 1 << 31, 1<<32 + 1, 1 << 62, math.MaxInt - 1, math.MaxInt}
	for _, seed := range seeds() {
		z, wantNext := defined(seed)
		for _, n := range bounds {
			want := new(big.Int).Mod(new(big.Int).SetUint64(z), big.NewInt(int64(n))).Int64()
			if got, next := Below(seed, n); int64(got) != want || next != wantNext {
				t.Errorf("Below(%x, %d) = %d, %x, want %d, %x", seed, n, got, next, want, wantNext)
			}
		}
	}
}

func TestBelowOfNoNumbers(t *testing.T) { // P6.2
	for _, seed := range seeds() {
		for _, n := range []int{0, -1, -2, -7, -1000000, math.MinInt + 1, math.MinInt} {
			if got, next := Below(seed, n); got != 0 || next != seed {
				t.Errorf("Below(%x, %d) = %d, %x", seed, n, got, next)
			}
		}
	}
}

func TestShuffle(t *testing.T) { // P6.3
	for _, c := range []struct {
		seed    uint64
		l, want []int
		next    uint64
	}{
		{0, []int{5, 6}, []int{5, 6}, 0x9e3779b97f4a7c15},
		{1, []int{4, 5, 6}, []int{4, 5, 6}, 0x3c6ef372fe94f82b},
		{7, []int{1, 2, 3, 4, 5}, []int{5, 2, 4, 1, 3}, 0x78dde6e5fd29f05b},
		{1234567, []int{1, 1, 2, 2, 3}, []int{3, 2, 1, 1, 2}, 0x78dde6e5fd3cc6db},
		{0, []int{0, 1, 2, 3, 4, 5, 6, 7}, []int{2, 5, 0, 3, 4, 6, 1, 7}, 0x538454127b096493},
		{1, []int{0, 1, 2, 3, 4, 5, 6, 7}, []int{4, 3, 2, 7, 5, 6, 0, 1}, 0x538454127b096494},
		{math.MaxUint64, []int{0, 1, 2, 3, 4, 5, 6, 7}, []int{7, 3, 5, 4, 2, 6, 1, 0}, 0x538454127b096492},
	} {
		if got, next := Shuffle(c.seed, c.l); !slices.Equal(got, c.want) || next != c.next {
			t.Errorf("Shuffle(%x, %v) = %v, %x, want %v, %x", c.seed, c.l, got, next, c.want, c.next)
		}
	}
}

func TestShuffleOfShortLists(t *testing.T) { // P6.3
	for _, seed := range seeds() {
		for _, l := range [][]int{nil, {}, {0}, {7}, {math.MinInt}, {math.MaxInt}} {
			if got, next := Shuffle(seed, l); !slices.Equal(got, l) || next != seed {
				t.Errorf("Shuffle(%x, %v) = %v, %x", seed, l, got, next)
			}
		}
	}
}

// drawn returns what the chapter says of Shuffle, in another way: an exchange with the last of the elements
// that remain is the drawing of one of them, whose place the last one takes.
func drawn(seed uint64, l []int) ([]int, uint64) {
	rest := slices.Clone(l)
	got := make([]int, len(l))
	for len(rest) > 0 {
		last, at := len(rest)-1, uint64(0)
		if last > 0 {
			at, seed = defined(seed)
			at %= uint64(len(rest))
		}
		got[last] = rest[at]
		rest[at] = rest[last]
		rest = rest[:last]
	}
	return got, seed
}

// lists are lists of every length up to 12, and longer ones: of different elements, and of few that occur often.
func lists() [][]int {
	ends := []int{math.MaxInt, 0, math.MinInt, -1, 1, 0}
	l := [][]int{ends, slices.Repeat(ends, 7)}
	for _, size := range []int{0, 1, 2, 3, 4, 5, 6, 7, 8, 9, 10, 11, 12, 60, 250} {
		different, few := make([]int, size), make([]int, size)
		for i := range size {
			different[i], few[i] = 1000-i, i*i%4
		}
		l = append(l, different, few)
	}
	return l
}

func TestShuffleAsDefined(t *testing.T) { // P6.3
	for i, seed := range seeds() {
		for _, l := range lists() {
			if i%20 != 0 && len(l) > 8 {
				continue
			}
			got, next := Shuffle(seed, l)
			if want, wantNext := drawn(seed, l); !slices.Equal(got, want) || next != wantNext {
				t.Errorf("Shuffle(%x, %v) = %v, %x, want %v, %x", seed, l, got, next, want, wantNext)
			}
		}
	}
}

func TestShuffleUsesSeedsInSequence(t *testing.T) { // P6.3
	for _, l := range lists() {
		if got, next := Shuffle(3, l); len(l) > 0 && next != 3+uint64(len(l)-1)*gamma {
			t.Errorf("Shuffle(3, %v) = %v, %x", l, got, next)
		}
	}
}

func TestShuffleReachesEveryOrder(t *testing.T) { // P6.3
	orders := map[[4]int]bool{}
	for seed := range uint64(1000) {
		got, _ := Shuffle(seed, []int{1, 2, 3, 4})
		orders[[4]int(got)] = true
	}
	if len(orders) != 24 {
		t.Errorf("%d orders of 4 elements", len(orders))
	}
}

func TestShuffleKeepsElements(t *testing.T) { // P6.4
	for _, seed := range seeds() {
		for _, l := range lists() {
			got, _ := Shuffle(seed, l)
			if !slices.Equal(slices.Sorted(slices.Values(got)), slices.Sorted(slices.Values(l))) {
				t.Errorf("Shuffle(%x, %v) = %v", seed, l, got)
			}
		}
	}
}

func TestShuffleOfALongList(t *testing.T) { // P6.3, P6.4
	const size = 200000
	l := make([]int, size)
	for i := range l {
		l[i] = i
	}
	got, next := Shuffle(17, l)
	if want, wantNext := drawn(17, l); !slices.Equal(got, want) || next != wantNext {
		t.Error("other order or seed")
	}
	slices.Sort(got)
	if !slices.Equal(got, l) {
		t.Error("other elements")
	}
}

func TestMemory(t *testing.T) { // P6.3, and rule 4 of DOC.md
	whole := []int{1, 2, 3, 4, 5, 0, 0, 0}
	for _, size := range []int{1, 2, 5} {
		l := whole[:size]
		got, _ := Shuffle(7, l)
		again, _ := Shuffle(7, l)
		want := slices.Clone(again)
		clear(got[:cap(got)])
		if !slices.Equal(whole, []int{1, 2, 3, 4, 5, 0, 0, 0}) || !slices.Equal(again, want) {
			t.Errorf("Shuffle of %v changes its argument or shares memory: %v, %v", l, whole, again)
		}
	}
	empty, _ := Shuffle(7, whole[:0])
	if empty = append(empty, 9); whole[0] != 1 {
		t.Errorf("the result of Shuffle of no elements shares memory: %v, %v", empty, whole)
	}
}

func TestAgain(t *testing.T) { // rule 7 of DOC.md
	for _, seed := range seeds() {
		a, nextA := Next(seed)
		Shuffle(seed+1, []int{1, 2, 3})
		Below(seed+2, 9)
		if b, nextB := Next(seed); a != b || nextA != nextB {
			t.Errorf("Next(%x) = %x, %x, then %x, %x", seed, a, nextA, b, nextB)
		}
	}
}

func TestExamples(t *testing.T) { // the example of chapter 06
	for _, seed := range seeds() {
		if got, next := Below(seed, 1); got != 0 || next != seed+gamma {
			t.Errorf("Below(%x, 1) = %d, %x", seed, got, next)
		}
	}
}
