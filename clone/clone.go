// Package clone copies values of package api that contain slices, so that the results of the layers share no memory with
// their arguments. It is no layer: every layer may call it.
package clone

import (
	"cardgame/api"
	"slices"
)

// Traits returns a copy of t.
func Traits(t api.Traits) api.Traits {
	t.Line.Subs = slices.Clone(t.Line.Subs)
	t.Abilities = each(t.Abilities, ability)
	return t
}

// ability returns a copy of a.
func ability(a api.Ability) api.Ability {
	a.Mods = slices.Clone(a.Mods)
	a.Specs = slices.Clone(a.Specs)
	a.Effects = each(a.Effects, effect)
	return a
}

// effect returns a copy of e.
func effect(e api.Effect) api.Effect {
	e.Mods = slices.Clone(e.Mods)
	return e
}

// each returns the copies of the elements of l.
func each[T any](l []T, copyOf func(x T) T) []T {
	l = slices.Clone(l)
	for i, x := range l {
		l[i] = copyOf(x)
	}
	return l
}
