package object

import (
	"math"
	"testing"

	"cardgame/api"
	"cardgame/probe"
)

// ends returns numbers around each border of the chapter, those of int among them.
func ends() []int {
	return []int{math.MinInt, math.MinInt + 1, -api.MaxNum, -2, -1, 0, 1, 2, 3, 4, 5, 6, 7, 255, 256, api.MaxNum - 1, api.MaxNum, api.MaxNum + 1, 1 << 32, math.MaxInt - 1, math.MaxInt}
}

// number is a field that is a number, and the range of its values in valid objects.
type number struct {
	name        string
	field       func(o *api.Object) *int
	first, last int
	anywhere    bool // whether objects in all zones may have all these values
	plain       int  // else the value of objects outside the battlefield
}

// numbers returns the fields that are numbers, with their ranges in a game with that many cards and players.
func numbers(cards, players int) []number {
	most := api.MaxNum
	return []number{
		{"Id", func(o *api.Object) *int { return &o.Id }, 1, math.MaxInt, true, 0},
		{"Card", func(o *api.Object) *int { return &o.Card }, 0, cards - 1, true, 0},
		{"Owner", func(o *api.Object) *int { return &o.Owner }, 0, players - 1, true, 0},
		{"Control", func(o *api.Object) *int { return &o.Control }, 0, players - 1, true, 0},
		{"Zone", func(o *api.Object) *int { return &o.Zone }, 0, 5, true, 0},
		{"Damage", func(o *api.Object) *int { return &o.Damage }, 0, most, false, 0},
		{"Stamp", func(o *api.Object) *int { return &o.Stamp }, 0, most, true, 0},
		{"Copy", func(o *api.Object) *int { return &o.Copy }, -1, cards - 1, true, 0},
		{"Attack", func(o *api.Object) *int { return &o.Attack }, -1, players - 1, false, -1},
		{"Blocks", func(o *api.Object) *int { return &o.Blocks }, 0, most, false, 0},
		{"Shield", func(o *api.Object) *int { return &o.Shield }, 0, most, false, 0},
		{"Counters[CPlus]", func(o *api.Object) *int { return &o.Counters[api.CPlus] }, 0, most, false, 0},
		{"Counters[CMinus]", func(o *api.Object) *int { return &o.Counters[api.CMinus] }, 0, most, false, 0},
		{"Counters[CCharge]", func(o *api.Object) *int { return &o.Counters[api.CCharge] }, 0, most, false, 0},
	}
}

// flag is a field that is a bool, and whether it may be true in objects of all zones.
type flag struct {
	name     string
	field    func(o *api.Object) *bool
	anywhere bool
}

func flags() []flag {
	return []flag{
		{"Token", func(o *api.Object) *bool { return &o.Token }, true},
		{"Tapped", func(o *api.Object) *bool { return &o.Tapped }, false},
		{"Sick", func(o *api.Object) *bool { return &o.Sick }, false},
		{"Deadly", func(o *api.Object) *bool { return &o.Deadly }, false},
		{"Blocked", func(o *api.Object) *bool { return &o.Blocked }, false},
	}
}

// isAsDefined is the definition of Is, field by field. Neither number is the least int.
func isAsDefined(o api.Object, cards, players int) bool {
	away := o.Zone != api.ZBattlefield
	for _, n := range numbers(cards, players) {
		value := *n.field(&o)
		if value < n.first || value > n.last || away && !n.anywhere && value != n.plain {
			return false
		}
	}
	for _, f := range flags() {
		if away && !f.anywhere && *f.field(&o) {
			return false
		}
	}
	return true
}

// quiet returns a valid object in a zone of a game with five cards and three players.
func quiet(zone int) api.Object {
	return api.Object{Id: 9, Card: 3, Owner: 1, Control: 2, Zone: zone, Stamp: 12, Copy: -1, Attack: -1}
}

// busy returns an object of that game, valid only on the battlefield, of which each field differs from that of quiet.
func busy(zone int) api.Object {
	return api.Object{
		Id: 8, Card: 4, Owner: 2, Control: 0, Zone: zone, Token: true, Tapped: true, Sick: true, Deadly: true, Damage: 3,
		Counters: [api.Counters]int{1, 2, 3}, Stamp: 7, Copy: 4, Attack: 1, Blocked: true, Blocks: 5, Shield: 6,
	}
}

// objects calls yield with all objects that differ from quiet or busy ones in at most one number and one bool.
func objects(yield func(o api.Object)) {
	for zone := range api.ZGone {
		for _, start := range []api.Object{{}, {Zone: zone}, quiet(zone), busy(zone)} {
			for _, n := range numbers(0, 0) {
				for _, value := range ends() {
					o := start
					*n.field(&o) = value
					yield(o)
					for _, f := range flags() {
						p := o
						*f.field(&p) = !*f.field(&p)
						yield(p)
					}
				}
			}
		}
	}
}

func TestNew(t *testing.T) { // P24.1
	for _, a := range ends() {
		for _, b := range ends() {
			for _, l := range [][5]int{{a, b, 3, 4, 5}, {1, a, b, 4, 5}, {1, 2, a, b, 5}, {1, 2, 3, a, b}, {a, 2, 3, 4, b}} {
				o := New(l[0], l[1], l[2], l[3], l[4])
				want := api.Object{Id: l[0], Card: l[1], Owner: l[2], Control: l[2], Zone: l[3], Stamp: l[4], Copy: -1, Attack: -1}
				if o != want {
					t.Errorf("New%v = %+v, want %+v", l, o, want)
				}
			}
		}
	}
}

// movedAsDefined is the definition of Moved, field by field.
func movedAsDefined(o api.Object, id, zone, control, stamp int) api.Object {
	moved := api.Object{Id: id, Card: o.Card, Owner: o.Owner, Control: o.Owner, Zone: zone, Token: o.Token, Stamp: stamp, Copy: -1, Attack: -1}
	switch zone {
	case 0:
		moved.Control, moved.Sick = control, true
	case 5:
		moved.Control = control
	}
	return moved
}

// P24.2: each zone, and numbers that are no zones.
func TestMoved(t *testing.T) {
	objects(func(o api.Object) {
		for zone := -1; zone <= api.ZGone; zone++ {
			if got, want := Moved(o, 20, zone, 3, 30), movedAsDefined(o, 20, zone, 3, 30); got != want {
				t.Errorf("Moved(%+v) to zone %d = %+v, want %+v", o, zone, got, want)
			}
		}
	})
	for _, a := range ends() {
		for _, b := range ends() {
			for zone := range api.ZGone {
				for _, l := range [][4]int{{a, b, 1, 2}, {a, zone, b, 2}, {a, zone, 1, b}, {2, zone, a, b}, {2, a, b, 4}, {2, a, 1, b}} {
					for _, o := range []api.Object{quiet(zone), busy(zone)} {
						if got, want := Moved(o, l[0], l[1], l[2], l[3]), movedAsDefined(o, l[0], l[1], l[2], l[3]); got != want {
							t.Errorf("Moved(%+v) with %v = %+v, want %+v", o, l, got, want)
						}
					}
				}
			}
		}
	}
}

// P24.2: whose control an object is under in each zone, and where it is sick.
func TestMovedZones(t *testing.T) {
	for _, c := range []struct {
		zone, control int
		sick          bool
	}{
		{api.ZBattlefield, 2, true}, {api.ZHand, 1, false}, {api.ZLibrary, 1, false}, {api.ZGraveyard, 1, false},
		{api.ZExile, 1, false}, {api.ZStack, 2, false}, {api.ZGone, 1, false}, {-1, 1, false}, {math.MaxInt, 1, false},
	} {
		for _, token := range []bool{false, true} {
			for from := range api.ZGone {
				o := Moved(api.Object{Id: 3, Card: 4, Owner: 1, Control: 3, Zone: from, Token: token, Stamp: 5}, 6, c.zone, 2, 7)
				want := api.Object{Id: 6, Card: 4, Owner: 1, Control: c.control, Zone: c.zone, Token: token, Sick: c.sick, Stamp: 7, Copy: -1, Attack: -1}
				if o != want {
					t.Errorf("from zone %d to %d: %+v, want %+v", from, c.zone, o, want)
				}
			}
		}
	}
}

// P24.2, P24.4: what a valid object becomes in another zone is valid.
func TestMovedIsValid(t *testing.T) {
	for zone := range api.ZGone {
		for _, o := range []api.Object{busy(api.ZBattlefield), quiet(api.ZHand), quiet(api.ZStack)} {
			if moved := Moved(o, 1, zone, 2, 0); !Is(moved, 5, 3) {
				t.Errorf("%+v became %+v", o, moved)
			}
		}
	}
}

func TestEnded(t *testing.T) { // P24.3
	objects(func(o api.Object) {
		want := o
		want.Damage = 0
		want.Deadly = false
		want.Shield = 0
		if got := Ended(o); got != want {
			t.Errorf("Ended(%+v) = %+v, want %+v", o, got, want)
		}
	})
	want := busy(api.ZBattlefield)
	want.Damage, want.Deadly, want.Shield = 0, false, 0
	if got := Ended(busy(api.ZBattlefield)); got != want || !got.Tapped || !got.Blocked || got.Attack != 1 || got.Blocks != 5 {
		t.Errorf("a creature at the end of a turn: %+v", got)
	}
}

func TestCalm(t *testing.T) { // P24.3
	objects(func(o api.Object) {
		want := o
		want.Attack = -1
		want.Blocked = false
		want.Blocks = 0
		if got := Calm(o); got != want {
			t.Errorf("Calm(%+v) = %+v, want %+v", o, got, want)
		}
	})
	want := busy(api.ZBattlefield)
	want.Attack, want.Blocked, want.Blocks = -1, false, 0
	if got := Calm(busy(api.ZBattlefield)); got != want || !got.Tapped || !got.Deadly || got.Damage != 3 || got.Shield != 6 {
		t.Errorf("a creature removed from combat: %+v", got)
	}
}

func TestEndedAndCalmCommute(t *testing.T) { // P24.5
	objects(func(o api.Object) {
		ended, calm := Ended(o), Calm(o)
		if Ended(ended) != ended || Calm(calm) != calm {
			t.Errorf("%+v: Ended or Calm is not idempotent", o)
		}
		if Ended(calm) != Calm(ended) {
			t.Errorf("%+v: %+v and %+v", o, Ended(calm), Calm(ended))
		}
	})
}

// P24.4: objects with one or two unusual fields, in games of several sizes.
func TestIs(t *testing.T) {
	valid := 0
	for _, size := range [][2]int{{5, 3}, {1, 1}, {256, 4}, {0, 3}, {5, 0}, {-1, -1}, {math.MaxInt, math.MaxInt}, {math.MinInt + 1, 3}, {5, math.MinInt + 1}} {
		cards, players := size[0], size[1]
		objects(func(o api.Object) {
			got := Is(o, cards, players)
			if want := isAsDefined(o, cards, players); got != want {
				t.Errorf("Is(%+v, %d, %d) = %v", o, cards, players, got)
			}
			if got {
				valid++
			}
		})
	}
	if valid < 3000 {
		t.Errorf("%d valid objects", valid)
	}
}

// P24.4: every field at every border, alone, in every zone.
func TestIsOfNumbers(t *testing.T) {
	for _, n := range numbers(5, 3) {
		if n.name == "Zone" {
			continue
		}
		for zone := range api.ZGone {
			for _, value := range probe.Numbers() {
				o := quiet(zone)
				*n.field(&o) = value
				want := n.first <= value && value <= n.last
				if zone != api.ZBattlefield && !n.anywhere {
					want = value == n.plain
				}
				if got := Is(o, 5, 3); got != want {
					t.Errorf("zone %d, %s %d: %v", zone, n.name, value, got)
				}
			}
		}
	}
	for _, zone := range probe.Numbers() {
		if got, want := Is(quiet(zone), 5, 3), 0 <= zone && zone <= 5; got != want {
			t.Errorf("zone %d: %v", zone, got)
		}
	}
}

func TestIsOfFlags(t *testing.T) { // P24.4
	for zone := range api.ZGone {
		for _, f := range flags() {
			o := quiet(zone)
			*f.field(&o) = true
			if got, want := Is(o, 5, 3), f.anywhere || zone == api.ZBattlefield; got != want {
				t.Errorf("zone %d, %s: %v", zone, f.name, got)
			}
		}
		if !Is(quiet(zone), 5, 3) || Is(busy(zone), 5, 3) != (zone == api.ZBattlefield) {
			t.Errorf("zone %d: %v, %v", zone, Is(quiet(zone), 5, 3), Is(busy(zone), 5, 3))
		}
	}
}

// P24.4: games without cards or players, down to the least int, whose predecessor would be the greatest.
func TestIsOfNoCardsOrPlayers(t *testing.T) {
	for zone := range api.ZGone {
		for _, none := range []int{math.MinInt, math.MinInt + 1, -api.MaxNum, -1, 0} {
			for _, o := range []api.Object{quiet(zone), busy(zone), New(1, 0, 0, zone, 0), New(1, -1, -1, zone, 0), New(1, math.MinInt, math.MinInt, zone, 0)} {
				if Is(o, none, 3) || Is(o, 5, none) || Is(o, none, none) {
					t.Errorf("%d cards or players: %+v is valid", none, o)
				}
			}
		}
	}
}

// P24.4: the fields that a card may have in every game with its card and its players.
func TestIsOfSmallGames(t *testing.T) {
	for cards := range 6 {
		for players := range 5 {
			for value := -2; value < 7; value++ {
				isCard, isPlayer := 0 <= value && value < cards, 0 <= value && value < players
				o := New(1, 0, 0, api.ZBattlefield, 0)
				card, copied, owner, control, attack := o, o, o, o, o
				card.Card, copied.Copy, owner.Owner, control.Control, attack.Attack = value, value, value, value, value
				some := cards > 0 && players > 0
				for _, c := range []struct {
					o    api.Object
					want bool
				}{
					{card, isCard}, {copied, isCard || value == -1}, {owner, isPlayer}, {control, isPlayer}, {attack, isPlayer || value == -1},
				} {
					if got := Is(c.o, cards, players); got != (c.want && some) {
						t.Errorf("Is(%+v, %d, %d) = %v", c.o, cards, players, got)
					}
				}
			}
		}
	}
}

func TestExamples(t *testing.T) {
	o := api.Object{Id: 4, Card: 1, Tapped: true, Counters: [api.Counters]int{1, 0, 2}, Stamp: 3, Copy: -1, Attack: -1}
	before := o
	moved := Moved(o, 7, api.ZGraveyard, 0, 8)
	if moved.Tapped || moved.Counters != [api.Counters]int{} || moved.Id != 7 || moved.Zone != api.ZGraveyard || !Is(moved, 2, 1) {
		t.Errorf("a creature in the graveyard: %+v", moved)
	}
	if o != before || !Is(o, 2, 1) {
		t.Errorf("Moved changed its argument: %+v", o)
	}
}
