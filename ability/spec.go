package ability

import (
	"cardgame/api"
	"cardgame/enclosed"
	"cardgame/filter"
	"cardgame/word"
	"slices"
	"strings"
)

const (
	beginSpec = "["
	endSpec   = "]"
	player    = "player"
	or        = " or "
)

// isSpec reports whether s is valid.
func isSpec(s api.Spec) bool {
	if !s.Object {
		return s.Player && s.Filter == api.Filter{}
	}
	return filter.Is(s.Filter) && slices.Contains([]int{api.ZBattlefield, api.ZGraveyard, api.ZStack}, s.Filter.Zone)
}

// SpecText returns the text of s, or the empty string if s is invalid.
func SpecText(s api.Spec) string {
	if !isSpec(s) {
		return ""
	}
	var parts []string
	if s.Player {
		parts = append(parts, player)
	}
	if s.Object {
		parts = append(parts, enclosed.Text(s.Filter))
	}
	return beginSpec + word.Join(parts, or) + endSpec
}

// parseSpec returns the specification with the text s. If there is none, it returns any valid one, or ErrForm.
func parseSpec(s string) (api.Spec, api.Errno) {
	var spec api.Spec
	inside := strings.TrimSuffix(strings.TrimPrefix(s, beginSpec), endSpec)
	first, second, _ := word.Cut(inside, or)
	for _, part := range []string{first, second} {
		if part == player {
			spec.Player = true
		} else if f, err := enclosed.Parse(part); err == api.OK {
			spec.Object, spec.Filter = true, f
		}
	}
	if !isSpec(spec) {
		return api.Spec{}, api.ErrForm
	}
	return spec, api.OK
}
