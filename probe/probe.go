// Package probe makes values and texts that the tests of several layers try. It is no layer, and no layer calls it.
package probe

import (
	"cardgame/api"
	"math"
	"strings"
)

// Numbers returns numbers at the borders of the ranges of fields and of int.
func Numbers() []int {
	list := []int{math.MinInt, math.MinInt + 1, math.MaxInt - 1, math.MaxInt}
	for n := -140; n < 140; n++ {
		list = append(list, n)
	}
	for i := 8; i < 63; i++ {
		list = append(list, 1<<i-1, 1<<i, 1<<i+1, 1<<i+2, -1<<i, -1<<i+1)
	}
	for n := api.MaxNum - 2; n <= api.MaxNum+2; n++ {
		list = append(list, n, -n)
	}
	return list
}

// Filters returns valid filters with a zone, by their texts. No two zones have one in common.
func Filters(zone int) map[string]api.Filter {
	start := []string{"", "in-hand ", "in-library ", "in-graveyard ", "in-exile ", "on-stack "}[zone]
	alone := strings.TrimSpace(start)
	if alone == "" {
		alone = "any"
	}
	all := map[string]api.Filter{alone: {Zone: zone}}
	for words, f := range map[string]api.Filter{
		"yours":                    {Who: api.You},
		"self":                     {Self: api.OnlySelf},
		"creature":                 {Types: api.Creature},
		"theirs other relic charm": {Who: api.Opponents, Self: api.OnlyOther, Types: api.Relic | api.Charm},
		"non-land jet non-amber":   {NotTypes: api.Land, Colors: api.Jet, NotColors: api.Amber},
		"sub:win with:flying":      {Sub: "win", Keys: api.Flying},
		"tapped power>=3 value=0":  {Tap: api.TapTapped, Power: api.Bound{Kind: api.BAtLeast, N: 3}, Value: api.Bound{Kind: api.BExactly}},
		"tough<=1000000":           {Tough: api.Bound{Kind: api.BAtMost, N: api.MaxNum}},
	} {
		f.Zone = zone
		all[start+words] = f
	}
	return all
}

// BadFilters returns filters that are not valid.
func BadFilters() []api.Filter {
	var all []api.Filter
	for _, f := range []api.Filter{
		{Who: 3}, {Who: -1}, {Self: 3}, {Self: -1}, {Tap: 3}, {Tap: -1}, {Types: 64}, {NotTypes: -1}, {Types: api.Land, NotTypes: api.Land}, {Colors: -1},
		{NotColors: 32}, {Colors: api.Jet, NotColors: api.Jet}, {Sub: "land"}, {Sub: "Fox"}, {Sub: "a)"}, {Sub: "a b"}, {Keys: api.AllKeys + 1}, {Keys: -1},
		{Power: api.Bound{N: 1}}, {Tough: api.Bound{Kind: 4}}, {Value: api.Bound{Kind: -1}}, {Value: api.Bound{Kind: api.BExactly, N: -1}},
		{Power: api.Bound{Kind: api.BAtLeast, N: api.MaxNum + 1}},
	} {
		for zone := range api.ZGone {
			f.Zone = zone
			all = append(all, f)
		}
	}
	return append(all, api.Filter{Zone: -1}, api.Filter{Zone: api.ZGone}, api.Filter{Zone: math.MaxInt})
}

// Extend calls check with start followed by all sequences of up to most pieces.
func Extend(check func(s string), start string, most int, pieces []string) {
	check(start)
	if most == 0 {
		return
	}
	for _, piece := range pieces {
		Extend(check, start+piece, most-1, pieces)
	}
}

// Neighbours calls check with texts that differ from text in one place, and with some larger ones.
func Neighbours(check func(s string), text string) {
	symbols := append(strings.Split("+ - , : ; = * / ( ) [ ] { } a e s t x X A 0 1 2 4 5 9 . é \x00 \xff", " "), " ", "\n", "\t", ", ", "; ", "")
	check(strings.ToUpper(text))
	for _, between := range []string{"", " ", ",", ", ", ";", "; ", "+", "*", "\n"} {
		check(text + between + text)
	}
	check("(" + text + ")")
	check("[" + text + "]")
	for i := range len(text) + 1 {
		check(text[:i])
		check(text[i:])
		for _, s := range symbols {
			check(text[:i] + s + text[i:])
			if i < len(text) {
				check(text[:i] + s + text[i+1:])
			}
		}
		if i+1 < len(text) {
			check(text[:i] + text[i+1:i+2] + text[i:i+1] + text[i+2:])
		}
	}
}
