package enclosed

import (
	"strings"
	"testing"

	"cardgame/api"
	"cardgame/filter"
	"cardgame/probe"
)

func TestTextAndParse(t *testing.T) {
	for zone := range api.ZGone {
		for text, f := range probe.Filters(zone) {
			if got := Text(f); got != "("+text+")" {
				t.Errorf("Text(%v) = %q", f, got)
			}
			if got, err := Parse("(" + text + ")"); got != f || err != api.OK {
				t.Errorf("Parse(%q) = %v, %v", "("+text+")", got, err)
			}
		}
	}
	for _, f := range probe.BadFilters() {
		if got := Text(f); got != "" {
			t.Errorf("Text(%v) = %q", f, got)
		}
	}
}

// check compares Parse(s) with filter.Parse of what is between the brackets.
func check(t *testing.T, s string) {
	t.Helper()
	var want api.Filter
	wantErr := api.ErrForm
	if len(s) >= 2 && s[0] == '(' && s[len(s)-1] == ')' {
		want, wantErr = filter.Parse(s[1 : len(s)-1])
	}
	if got, err := Parse(s); got != want || err != wantErr {
		t.Errorf("Parse(%.80q) = %v, %v", s, got, err)
	}
}

func TestParseNearby(t *testing.T) {
	probe.Extend(func(s string) { check(t, s) }, "", 5, []string{"(", ")", "[", "]", "any", "yours", " ", "land"})
	for text := range probe.Filters(api.ZStack) {
		probe.Neighbours(func(s string) { check(t, s) }, "("+text+")")
	}
}

func TestParseRejects(t *testing.T) {
	for _, s := range []string{
		"", "(", ")", "()", ")(", "any", "(any", "any)", "((any))", "[any]", " (any)", "(any) ", "( any)", "(any )", "(any)(any)", "(any) (any)", "(fox)",
		strings.Repeat("(", 1<<20), strings.Repeat("(", 1<<20) + "any" + strings.Repeat(")", 1<<20),
	} {
		if got, err := Parse(s); got != (api.Filter{}) || err != api.ErrForm {
			t.Errorf("Parse(%.80q) = %v, %v", s, got, err)
		}
	}
}
