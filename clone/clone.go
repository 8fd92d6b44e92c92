// Package clone copies values of package api that contain slices, so that the results of the layers share no memory with
// their arguments. It is no layer: every layer may call it.
package clone

import (
	"cardgame/api"
	"slices"
)

// Traits returns a copy of t.
func Traits(t api.Traits) api.Traits {
	t.Line.Subs = slices.Clone(t.Line.Subs)
	t.Abilities = each(t.Abilities, ability)
	return t
}

// State returns a copy of s.
func State(s api.State) api.State {
	s.Players = each(s.Players, player)
	s.Objects = slices.Clone(s.Objects)
	s.Battlefield = slices.Clone(s.Battlefield)
	s.Exile = slices.Clone(s.Exile)
	s.Stack = each(s.Stack, item)
	s.Waiting = each(s.Waiting, waiting)
	s.Conts = each(s.Conts, cont)
	s.Extra = slices.Clone(s.Extra)
	return s
}

// player returns a copy of p.
func player(p api.Player) api.Player {
	p.Library = slices.Clone(p.Library)
	p.Hand = slices.Clone(p.Hand)
	p.Graveyard = slices.Clone(p.Graveyard)
	return p
}

// item returns a copy of i.
func item(i api.Item) api.Item {
	i.Ability = ability(i.Ability)
	i.Targets = slices.Clone(i.Targets)
	return i
}

// waiting returns a copy of w.
func waiting(w api.Waiting) api.Waiting {
	w.Ability = ability(w.Ability)
	return w
}

// cont returns a copy of c.
func cont(c api.Cont) api.Cont {
	c.Objects = slices.Clone(c.Objects)
	c.Mods = slices.Clone(c.Mods)
	return c
}

// ability returns a copy of a.
func ability(a api.Ability) api.Ability {
	a.Mods = slices.Clone(a.Mods)
	a.Specs = slices.Clone(a.Specs)
	a.Effects = each(a.Effects, effect)
	return a
}

// effect returns a copy of e.
func effect(e api.Effect) api.Effect {
	e.Mods = slices.Clone(e.Mods)
	return e
}

// each returns the copies of the elements of l.
func each[T any](l []T, copyOf func(x T) T) []T {
	l = slices.Clone(l)
	for i, x := range l {
		l[i] = copyOf(x)
	}
	return l
}
