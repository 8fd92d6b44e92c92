package listing

import (
	"slices"
	"strconv"
	"strings"
	"testing"

	"cardgame/api"
)

// textOf returns the text of a number from 0 to 9, which is that number in brackets, and the empty string for others.
func textOf(n int) string {
	if n < 0 || n > 9 {
		return ""
	}
	return "(" + strconv.Itoa(n) + ")"
}

// parse inverts textOf.
func parse(s string) (int, api.Errno) {
	for n := range 10 {
		if textOf(n) == s {
			return n, api.OK
		}
	}
	return 0, api.ErrForm
}

func TestTextAndParse(t *testing.T) {
	for _, by := range []string{", ", "; ", " ", "and"} {
		var l []int
		var parts []string
		for n := range 10 {
			for most := range 12 {
				want := strings.Join(parts, by)
				good := 0 < n && n <= most
				got, err := Parse(want, most, by, parse)
				text := Text(l, most, by, textOf)
				if good && (text != want || err != api.OK || !slices.Equal(got, l)) || !good && (text != "" || err != api.ErrForm || got != nil) {
					t.Errorf("%v with at most %d: %q; %v, %v", l, most, text, got, err)
				}
			}
			l = append(l, n)
			parts = append(parts, textOf(n))
		}
	}
}

func TestTextOfInvalid(t *testing.T) {
	for _, l := range [][]int{{-1}, {10}, {-1, 1, 2}, {1, 10, 2}, {1, 2, -1}} {
		if got := Text(l, 3, ", ", textOf); got != "" {
			t.Errorf("Text(%v) = %q", l, got)
		}
	}
}

func TestParseRejects(t *testing.T) {
	for _, s := range []string{
		"", ", ", "(1), ", ", (1)", "(1), , (2)", "(1),(2)", "(1),  (2)", "(1) , (2)", "(1); (2)", "(1), 2", "(1), (10)", "(1, (2)", "((1), (2))", "(1), (2)\n",
		strings.Repeat("(1), ", 1<<18) + "(1)", strings.Repeat("(", 1<<20), strings.Repeat(", ", 1<<19),
	} {
		if l, err := Parse(s, 3, ", ", parse); l != nil || err != api.ErrForm {
			t.Errorf("Parse(%.80q) = %v, %v", s, l, err)
		}
	}
}
