// Package enclosed writes and parses filters in round brackets. It is no layer: every layer above filter may call it.
package enclosed

import (
	"cardgame/api"
	"cardgame/filter"
	"strings"
)

const (
	begin = "("
	end   = ")"
)

// Text returns the text of f in brackets, or the empty string if f is invalid.
func Text(f api.Filter) string {
	if !filter.Is(f) {
		return ""
	}
	return begin + filter.Text(f) + end
}

// Parse returns the valid filter whose Text is s, or ErrForm if there is none.
func Parse(s string) (api.Filter, api.Errno) {
	rest, begins := strings.CutPrefix(s, begin)
	inside, ends := strings.CutSuffix(rest, end)
	if !begins || !ends {
		return api.Filter{}, api.ErrForm
	}
	return filter.Parse(inside)
}
