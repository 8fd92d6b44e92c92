package probe

import (
	"slices"
	"strings"
	"testing"

	"cardgame/api"
	"cardgame/filter"
)

func TestNumbers(t *testing.T) {
	for _, n := range []int{-1, 0, 1, 8, 9, 10, 99, 100, -99, -100, 131071, 131072, api.MaxNum, api.MaxNum + 1, -api.MaxNum, -api.MaxNum - 1, 1 << 32, 1<<32 + 1, -1 << 62} {
		if !slices.Contains(Numbers(), n) {
			t.Errorf("%d is missing", n)
		}
	}
}

func TestFilters(t *testing.T) {
	for zone := range api.ZGone {
		if len(Filters(zone)) != 9 {
			t.Errorf("%d filters with the zone %d", len(Filters(zone)), zone)
		}
		for text, f := range Filters(zone) {
			if filter.Text(f) != text || f.Zone != zone || slices.Contains(BadFilters(), f) {
				t.Errorf("%v does not have the text %q", f, text)
			}
		}
	}
	for _, f := range BadFilters() {
		if filter.Is(f) {
			t.Errorf("%v is valid", f)
		}
	}
}

// collect returns the texts that a function gives to check.
func collect(give func(check func(s string))) []string {
	var all []string
	give(func(s string) { all = append(all, s) })
	return all
}

func TestExtend(t *testing.T) {
	got := collect(func(check func(s string)) { Extend(check, "x", 2, []string{"a", "bc"}) })
	if want := strings.Fields("x xa xaa xabc xbc xbca xbcbc"); !slices.Equal(got, want) {
		t.Errorf("got %q, want %q", got, want)
	}
}

func TestNeighbours(t *testing.T) {
	got := collect(func(check func(s string)) { Neighbours(check, "you1") })
	for _, s := range []string{
		"", "y", "u1", "you1", "you", "ou1", "yo1", "yuo1", "oyu1", "you5", "You1", "youu1", "you1 ", " you1", "you1;", "YOU1", "you1you1", "you1, you1", "(you1)", "y(u1", "you1\xff",
	} {
		if want := s != "You1" && s != "youu1"; slices.Contains(got, s) != want {
			t.Errorf("%q: %v", s, !want)
		}
	}
}
