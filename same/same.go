// Package same compares values of package api that contain slices, for the layers that compare values with abilities. Lists
// without elements are equal. It is no layer: every layer may call it.
package same

import (
	"cardgame/api"
	"slices"
)

// Ability reports whether a and b are equal.
func Ability(a, b api.Ability) bool {
	return a.Kind == b.Kind && a.Filter == b.Filter && slices.Equal(a.Mods, b.Mods) && a.Price == b.Price && a.Slow == b.Slow &&
		a.Trigger == b.Trigger && a.May == b.May && slices.Equal(a.Specs, b.Specs) &&
		slices.EqualFunc(a.Effects, b.Effects, effect) && a.Replace == b.Replace
}

// effect reports whether a and b are equal.
func effect(a, b api.Effect) bool {
	return a.Op == b.Op && a.Ref == b.Ref && a.Amount == b.Amount && a.Counter == b.Counter && a.Zone == b.Zone &&
		a.Card == b.Card && a.Filter == b.Filter && a.Pool == b.Pool && slices.Equal(a.Mods, b.Mods)
}
