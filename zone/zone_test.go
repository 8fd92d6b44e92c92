package zone

import (
	"cmp"
	"math"
	"reflect"
	"slices"
	"testing"

	"cardgame/api"
)

// dice yields numbers that are the same in every run.
type dice uint64

// below returns a number from 0 to n - 1.
func (d *dice) below(n int) int {
	*d = *d*6364136223846793005 + 1442695040888963407
	return int(uint64(*d)>>33) % n
}

// ids returns a short list of small ids, some of them more than once.
func (d *dice) ids() []int {
	var l []int
	for range d.below(6) {
		l = append(l, d.below(8)-1)
	}
	return l
}

// ability returns an ability, valid or not, with lists.
func (d *dice) ability() api.Ability {
	return api.Ability{
		Kind:    d.below(7),
		Mods:    []api.Mod{{Kind: d.below(15)}},
		Specs:   make([]api.Spec, d.below(3)),
		Effects: []api.Effect{{Op: d.below(27), Mods: []api.Mod{{N: d.below(9)}}}},
	}
}

// object returns an object, valid or not, most of whose numbers are small.
func (d *dice) object() api.Object {
	return api.Object{
		Id: d.below(8) - 1, Card: d.below(5), Owner: d.below(5) - 1, Control: d.below(5) - 1, Zone: d.below(8) - 1,
		Token: d.below(3) == 0, Tapped: d.below(2) == 0, Sick: d.below(2) == 0, Deadly: d.below(2) == 0, Damage: d.below(4),
		Counters: [api.Counters]int{d.below(3), d.below(3), d.below(3)}, Stamp: d.below(9), Copy: d.below(5) - 1,
		Attack: d.below(4) - 1, Blocked: d.below(2) == 0, Blocks: d.below(9), Shield: d.below(4),
	}
}

// messy returns a state, most likely an invalid one, with that number of the run: ids and lists are as they come.
func messy(run int) api.State {
	d := dice(run)
	s := api.State{
		Battlefield: d.ids(), Exile: d.ids(), Turn: d.below(9), Active: d.below(4), Step: d.below(11), Begun: d.below(2) == 0,
		Priority: d.below(4), Passes: d.below(4), NextId: d.below(10) - 1, NextStamp: d.below(10) - 1, Seed: uint64(d.below(99)),
		Extra: d.ids(), Over: d.below(3), Winner: d.below(4) - 1,
	}
	for range d.below(4) {
		s.Players = append(s.Players, api.Player{Life: d.below(30), Pool: api.Pool{d.below(3)}, Library: d.ids(), Hand: d.ids(), Graveyard: d.ids()})
	}
	for range d.below(7) {
		s.Objects = append(s.Objects, d.object())
	}
	if d.below(2) == 0 {
		slices.SortStableFunc(s.Objects, func(o, p api.Object) int { return cmp.Compare(o.Id, p.Id) })
	}
	for range d.below(6) {
		item := api.Item{Id: d.below(8) - 1, Kind: d.below(4), X: d.below(5), Ability: d.ability(), Event: api.Event{Kind: d.below(9)}}
		item.Targets = make([]api.Target, d.below(3))
		s.Stack = append(s.Stack, item)
	}
	for range d.below(3) {
		s.Waiting = append(s.Waiting, api.Waiting{Source: d.below(9), Ability: d.ability()})
		s.Conts = append(s.Conts, api.Cont{Stamp: d.below(9), Objects: d.ids(), Mods: make([]api.Mod, d.below(3))})
	}
	return s
}

// runs is the number of messy states that a test tries.
const runs = 120

// numbers returns numbers that may be ids, zones or players, and some that may not.
func numbers() []int {
	return []int{math.MinInt, -2, -1, 0, 1, 2, 3, 4, 5, 6, 7, 8, 1 << 32, math.MaxInt}
}

// tidied makes every empty slice below v nil.
func tidied(v reflect.Value) {
	switch v.Kind() {
	case reflect.Slice:
		if v.Len() == 0 {
			v.SetZero()
		}
		for i := range v.Len() {
			tidied(v.Index(i))
		}
	case reflect.Struct:
		for i := range v.NumField() {
			tidied(v.Field(i))
		}
	}
}

// equal reports whether both states are equal, except that empty slices may be nil. It changes its arguments only in that.
func equal(a, b api.State) bool {
	tidied(reflect.ValueOf(&a).Elem())
	tidied(reflect.ValueOf(&b).Elem())
	return reflect.DeepEqual(a, b)
}

// span is the memory of a slice.
type span struct{ start, end uintptr }

// spans appends the memory of every slice below v to l.
func spans(l []span, v reflect.Value) []span {
	switch v.Kind() {
	case reflect.Slice:
		if v.Cap() > 0 {
			l = append(l, span{v.Pointer(), v.Pointer() + uintptr(v.Cap())*v.Type().Elem().Size()})
		}
		for i := range v.Len() {
			l = spans(l, v.Index(i))
		}
	case reflect.Struct:
		for i := range v.NumField() {
			l = spans(l, v.Field(i))
		}
	}
	return l
}

// areApart reports whether no two slices of the values share memory.
func areApart(values ...any) bool {
	var l []span
	for _, x := range values {
		l = spans(l, reflect.ValueOf(x))
	}
	slices.SortFunc(l, func(a, b span) int { return cmp.Compare(a.start, b.start) })
	for i := 1; i < len(l); i++ {
		if l[i].start < l[i-1].end {
			return false
		}
	}
	return true
}

// checkResult checks a result of a call with the state of the run as argument: what it is, and that it is new memory. The
// argument must be as it was.
func checkResult(t *testing.T, call string, run int, argument, got, want api.State) {
	t.Helper()
	if !areApart(argument, got) {
		t.Errorf("run %d: %s shares memory", run, call)
	}
	if !equal(got, want) {
		t.Errorf("run %d: %s =\n%+v, want\n%+v", run, call, got, want)
	}
	if !equal(argument, messy(run)) {
		t.Fatalf("run %d: %s changed its argument", run, call)
	}
}

// The other tests rely on what these functions report, and on states that are large enough.
func TestOfTheTests(t *testing.T) {
	s := twoPlayers()
	if areApart(s, s.Battlefield) || areApart(s, s.Players[1].Hand[1:]) || !areApart(s) || !areApart(s, twoPlayers()) || !areApart(s, s.Exile[2:]) {
		t.Error("areApart is wrong")
	}
	if !equal(api.State{Exile: []int{}}, api.State{}) || equal(api.State{Exile: []int{0}}, api.State{}) || equal(messy(1), messy(2)) {
		t.Error("equal is wrong")
	}
	all := api.State{}
	for run := range runs {
		all.Players = append(all.Players, messy(run).Players...)
		all.Stack = append(all.Stack, messy(run).Stack...)
		all.Waiting = append(all.Waiting, messy(run).Waiting...)
	}
	if len(all.Players) < runs || len(all.Stack) < runs || len(all.Waiting) < runs/2 {
		t.Error("the states are too small")
	}
}

func TestCopy(t *testing.T) { // P25.1
	for run := range runs {
		s := messy(run)
		checkResult(t, "Copy", run, s, Copy(s), messy(run))
	}
}

// P25.1: a change of the copy does not change the state, and the other way round.
func TestCopyIsApart(t *testing.T) {
	build := func() api.State {
		return api.State{
			Players:     []api.Player{{Life: 20, Library: []int{1}, Hand: []int{2}, Graveyard: []int{3}}},
			Objects:     []api.Object{{Id: 1}},
			Battlefield: []int{4}, Exile: []int{5}, Extra: []int{0},
			Stack: []api.Item{{
				Id: 6, Targets: []api.Target{{Object: 1}},
				Ability: api.Ability{Mods: []api.Mod{{N: 1}}, Specs: []api.Spec{{Player: true}}, Effects: []api.Effect{{Op: 1, Mods: []api.Mod{{N: 2}}}}},
			}},
			Waiting: []api.Waiting{{Source: 7, Ability: api.Ability{Effects: []api.Effect{{Mods: []api.Mod{{N: 3}}}}}}},
			Conts:   []api.Cont{{Stamp: 8, Objects: []int{9}, Mods: []api.Mod{{N: 4}}}},
		}
	}
	for i, change := range []func(s api.State){
		func(s api.State) { s.Players[0].Life = 0 },
		func(s api.State) { s.Players[0].Library[0] = 0 },
		func(s api.State) { s.Players[0].Hand[0] = 0 },
		func(s api.State) { s.Players[0].Graveyard[0] = 0 },
		func(s api.State) { s.Objects[0].Id = 0 },
		func(s api.State) { s.Battlefield[0] = 0 },
		func(s api.State) { s.Exile[0] = 0 },
		func(s api.State) { s.Extra[0] = 1 },
		func(s api.State) { s.Stack[0].Id = 0 },
		func(s api.State) { s.Stack[0].Targets[0].Object = 0 },
		func(s api.State) { s.Stack[0].Ability.Mods[0].N = 0 },
		func(s api.State) { s.Stack[0].Ability.Specs[0].Player = false },
		func(s api.State) { s.Stack[0].Ability.Effects[0].Op = 0 },
		func(s api.State) { s.Stack[0].Ability.Effects[0].Mods[0].N = 0 },
		func(s api.State) { s.Waiting[0].Source = 0 },
		func(s api.State) { s.Waiting[0].Ability.Effects[0].Mods[0].N = 0 },
		func(s api.State) { s.Conts[0].Stamp = 0 },
		func(s api.State) { s.Conts[0].Objects[0] = 0 },
		func(s api.State) { s.Conts[0].Mods[0].N = 0 },
	} {
		s := build()
		c := Copy(s)
		change(c)
		if !equal(s, build()) || equal(c, build()) {
			t.Errorf("change %d of the copy: %+v", i, s)
		}
		s = build()
		c = Copy(s)
		change(s)
		if !equal(c, build()) || equal(s, build()) {
			t.Errorf("change %d of the state: %+v", i, c)
		}
	}
}

func TestFind(t *testing.T) { // P25.1
	for run := range runs {
		s := messy(run)
		for _, id := range numbers() {
			var want api.Object
			exists := false
			for i := len(s.Objects) - 1; i >= 0; i-- {
				if s.Objects[i].Id == id {
					want, exists = s.Objects[i], true
				}
			}
			if o, found := Find(s, id); o != want || found != exists {
				t.Errorf("run %d: Find(%d) = %+v, %v, want %+v, %v", run, id, o, found, want, exists)
			}
		}
		if !equal(s, messy(run)) {
			t.Fatalf("run %d: Find changed its argument", run)
		}
	}
}

// P25.1: objects are found wherever they stand; of several with an id the first one is.
func TestFindFirst(t *testing.T) {
	s := api.State{Objects: []api.Object{{Id: 5, Card: 1}, {Id: 2, Card: 2}, {Id: 5, Card: 3}, {Id: 2, Card: 4}, {Id: 9, Card: 5}}}
	for id, card := range map[int]int{5: 1, 2: 2, 9: 5} {
		if o, found := Find(s, id); !found || o.Card != card {
			t.Errorf("Find(%d) = %+v, %v", id, o, found)
		}
	}
	for _, id := range []int{0, 1, 3, 4, 6, 10, -5} {
		if o, found := Find(s, id); found || o != (api.Object{}) {
			t.Errorf("Find(%d) = %+v, %v", id, o, found)
		}
	}
	if o, found := Find(api.State{}, 0); found || o != (api.Object{}) {
		t.Errorf("an object of no objects: %+v", o)
	}
	if o, found := Find(api.State{Objects: []api.Object{{Card: 3}}}, 0); !found || o.Card != 3 {
		t.Errorf("the object 0: %+v, %v", o, found)
	}
}

// putAsDefined is the definition of Put for the objects of a state.
func putAsDefined(l []api.Object, o api.Object) []api.Object {
	var result []api.Object
	for i, old := range l {
		if old.Id == o.Id {
			result = append(append(result, l[:i]...), o)
			return append(result, l[i+1:]...)
		}
	}
	for i, old := range l {
		if old.Id > o.Id {
			result = append(append(result, l[:i]...), o)
			return append(result, l[i:]...)
		}
	}
	return append(append(result, l...), o)
}

// P25.1, P25.6: Find returns what was Put.
func TestPut(t *testing.T) {
	for run := range runs {
		s := messy(run)
		for _, id := range numbers() {
			d := dice(run + id)
			o := d.object()
			o.Id = id
			want := messy(run)
			want.Objects = putAsDefined(want.Objects, o)
			result := Put(s, o)
			checkResult(t, "Put", run, s, result, want)
			if p, found := Find(result, id); !found || p != o {
				t.Errorf("run %d: %+v was put, %+v found", run, o, p)
			}
		}
	}
}

func TestPutPlaces(t *testing.T) { // P25.1
	for _, c := range []struct {
		before []int
		id     int
		after  []int
	}{
		{nil, 3, []int{3}},
		{[]int{}, 0, []int{0}},
		{[]int{2, 4, 6}, 1, []int{1, 2, 4, 6}},
		{[]int{2, 4, 6}, -1, []int{-1, 2, 4, 6}},
		{[]int{2, 4, 6}, 3, []int{2, 3, 4, 6}},
		{[]int{2, 4, 6}, 5, []int{2, 4, 5, 6}},
		{[]int{2, 4, 6}, 7, []int{2, 4, 6, 7}},
		{[]int{2, 4, 6}, 4, []int{2, 4, 6}},
		{[]int{6, 4, 2}, 5, []int{5, 6, 4, 2}},
		{[]int{2, 6, 4}, 5, []int{2, 5, 6, 4}},
		{[]int{6, 4, 2}, 2, []int{6, 4, 2}},
		{[]int{4, 4}, 4, []int{4, 4}},
	} {
		var s api.State
		for i, id := range c.before {
			s.Objects = append(s.Objects, api.Object{Id: id, Card: i})
		}
		result := Put(s, api.Object{Id: c.id, Card: 99})
		var ids []int
		for _, o := range result.Objects {
			ids = append(ids, o.Id)
		}
		at := slices.Index(c.after, c.id)
		if !slices.Equal(ids, c.after) || result.Objects[at].Card != 99 || len(s.Objects) != len(c.before) {
			t.Errorf("%d in %v: %+v", c.id, c.before, result.Objects)
		}
	}
}

// listAsDefined is the list of a zone of a player.
func listAsDefined(s api.State, zone, player int) []int {
	exists := player >= 0 && player < len(s.Players)
	switch {
	case zone == 0:
		return s.Battlefield
	case zone == 4:
		return s.Exile
	case zone == 1 && exists:
		return s.Players[player].Hand
	case zone == 2 && exists:
		return s.Players[player].Library
	case zone == 3 && exists:
		return s.Players[player].Graveyard
	}
	return nil
}

func TestList(t *testing.T) { // P25.2
	for run := range runs {
		s := messy(run)
		for _, zone := range numbers() {
			for _, player := range numbers() {
				got, want := List(s, zone, player), listAsDefined(s, zone, player)
				if !slices.Equal(got, want) || !areApart(s, got) {
					t.Errorf("run %d: List of zone %d of %d = %v, want %v", run, zone, player, got, want)
				}
			}
		}
		if !equal(s, messy(run)) {
			t.Fatalf("run %d: List changed its argument", run)
		}
	}
}

// twoPlayers returns a state whose lists are all different.
func twoPlayers() api.State {
	return api.State{
		Players: []api.Player{
			{Hand: []int{1, 2}, Library: []int{3, 4}, Graveyard: []int{5, 6}},
			{Hand: []int{7, 8}, Library: []int{9, 10}, Graveyard: []int{11, 12}},
		},
		Battlefield: []int{13, 14}, Exile: []int{15, 16}, Extra: []int{1}, NextId: 17,
	}
}

func TestListZones(t *testing.T) { // P25.2
	for _, c := range []struct {
		zone, player int
		want         []int
	}{
		{api.ZHand, 0, []int{1, 2}}, {api.ZLibrary, 0, []int{3, 4}}, {api.ZGraveyard, 0, []int{5, 6}},
		{api.ZHand, 1, []int{7, 8}}, {api.ZLibrary, 1, []int{9, 10}}, {api.ZGraveyard, 1, []int{11, 12}},
		{api.ZBattlefield, 0, []int{13, 14}}, {api.ZBattlefield, 1, []int{13, 14}}, {api.ZBattlefield, 2, []int{13, 14}},
		{api.ZBattlefield, -1, []int{13, 14}}, {api.ZExile, 1, []int{15, 16}}, {api.ZExile, math.MinInt, []int{15, 16}},
		{api.ZExile, math.MaxInt, []int{15, 16}}, {api.ZHand, 2, nil}, {api.ZHand, -1, nil}, {api.ZLibrary, math.MaxInt, nil},
		{api.ZGraveyard, math.MinInt, nil}, {api.ZStack, 0, nil}, {api.ZGone, 0, nil}, {-1, 0, nil}, {7, 1, nil},
	} {
		s := twoPlayers()
		if got := List(s, c.zone, c.player); !slices.Equal(got, c.want) {
			t.Errorf("List of zone %d of %d = %v, want %v", c.zone, c.player, got, c.want)
		}
		result := Set(s, c.zone, c.player, []int{20, 19, 20})
		want := []int{20, 19, 20}
		if c.want == nil {
			want = nil
		}
		if got := List(result, c.zone, c.player); !slices.Equal(got, want) || equal(result, s) != (c.want == nil) || !equal(s, twoPlayers()) {
			t.Errorf("Set of zone %d of %d: %v, want %v", c.zone, c.player, got, want)
		}
	}
}

func TestSet(t *testing.T) { // P25.2
	for run := range runs {
		s := messy(run)
		for _, zone := range []int{math.MinInt, -1, 0, 1, 2, 3, 4, 5, 6, math.MaxInt} {
			for _, player := range []int{math.MinInt, -1, 0, 1, 2, 3, math.MaxInt} {
				d := dice(run + 7*zone + player)
				l := d.ids()
				given := slices.Clone(l)
				want := messy(run)
				exists := player >= 0 && player < len(want.Players)
				switch {
				case zone == 0:
					want.Battlefield = l
				case zone == 4:
					want.Exile = l
				case zone == 1 && exists:
					want.Players[player].Hand = l
				case zone == 2 && exists:
					want.Players[player].Library = l
				case zone == 3 && exists:
					want.Players[player].Graveyard = l
				}
				result := Set(s, zone, player, l)
				checkResult(t, "Set", run, s, result, want)
				if !areApart(result, l) || !slices.Equal(l, given) {
					t.Errorf("run %d: Set keeps or changes the list %v", run, given)
				}
			}
		}
	}
}

// P25.2: the list may be one of the state, and may be empty.
func TestSetOfItsOwnList(t *testing.T) {
	s := twoPlayers()
	result := Set(s, api.ZHand, 0, s.Battlefield)
	want := twoPlayers()
	want.Players[0].Hand = []int{13, 14}
	if !equal(result, want) || !areApart(s, result) {
		t.Errorf("%+v", result)
	}
	for _, none := range [][]int{nil, {}} {
		want.Players[0].Hand = nil
		if result := Set(s, api.ZHand, 0, none); !equal(result, want) {
			t.Errorf("%+v", result)
		}
	}
}

// whereAsDefined is the definition of Where.
func whereAsDefined(s api.State, id int) (int, int, bool) {
	for _, o := range s.Objects {
		if o.Id != id {
			continue
		}
		var places []bool
		for _, other := range listAsDefined(s, o.Zone, o.Owner) {
			places = append(places, other == id)
		}
		if o.Zone == 5 {
			for _, i := range s.Stack {
				places = append(places, i.Id == id && i.Kind == 1)
			}
		}
		for i, is := range places {
			if is {
				return o.Zone, i, true
			}
		}
		return 0, 0, false
	}
	return 0, 0, false
}

func TestWhere(t *testing.T) { // P25.3
	found := 0
	for run := range runs {
		s := messy(run)
		for _, id := range numbers() {
			zone, at, ok := Where(s, id)
			wantZone, wantAt, wantOk := whereAsDefined(s, id)
			if zone != wantZone || at != wantAt || ok != wantOk {
				t.Errorf("run %d: Where(%d) = %d, %d, %v, want %d, %d, %v", run, id, zone, at, ok, wantZone, wantAt, wantOk)
			}
			if ok {
				found++
			}
		}
		if !equal(s, messy(run)) {
			t.Fatalf("run %d: Where changed its argument", run)
		}
	}
	if found < runs/6 {
		t.Errorf("%d objects were found", found)
	}
}

func TestWhereZones(t *testing.T) { // P25.3
	s := twoPlayers()
	s.Players[1].Library = []int{9, 10, 9}
	s.Stack = []api.Item{{Id: 20, Kind: api.ItAbility}, {Id: 17, Kind: api.ItSpell}, {Id: 20, Kind: api.ItSpell}, {Id: 20, Kind: api.ItSpell}, {Id: 21, Kind: api.ItAbility}}
	for _, o := range []api.Object{
		{Id: 1, Zone: api.ZHand}, {Id: 2, Zone: api.ZHand, Owner: 1}, {Id: 4, Zone: api.ZLibrary}, {Id: 6, Zone: api.ZGraveyard, Control: 1},
		{Id: 8, Zone: api.ZHand, Owner: 1}, {Id: 9, Zone: api.ZLibrary, Owner: 1}, {Id: 11, Zone: api.ZGraveyard, Owner: 1}, {Id: 12, Zone: api.ZGraveyard, Owner: 2},
		{Id: 13, Zone: api.ZBattlefield, Owner: 1}, {Id: 14, Zone: api.ZBattlefield, Owner: 4}, {Id: 16, Zone: api.ZExile}, {Id: 15, Zone: api.ZBattlefield},
		{Id: 17, Zone: api.ZStack}, {Id: 20, Zone: api.ZStack, Owner: 9}, {Id: 21, Zone: api.ZStack}, {Id: 22, Zone: api.ZStack}, {Id: 3, Zone: api.ZGone},
		{Id: 5, Zone: -1}, {Id: 10, Zone: api.ZHand, Owner: 1}, {Id: 10, Zone: api.ZLibrary, Owner: 1},
	} {
		s.Objects = append(s.Objects, o)
	}
	for _, c := range []struct {
		id, zone, at int
		ok           bool
	}{
		{1, api.ZHand, 0, true}, {4, api.ZLibrary, 1, true}, {6, api.ZGraveyard, 1, true}, {8, api.ZHand, 1, true}, {9, api.ZLibrary, 0, true},
		{11, api.ZGraveyard, 0, true}, {13, api.ZBattlefield, 0, true}, {14, api.ZBattlefield, 1, true}, {16, api.ZExile, 1, true},
		{17, api.ZStack, 1, true}, {20, api.ZStack, 2, true},
		{2, 0, 0, false},  // in the hand of another player than its owner
		{12, 0, 0, false}, // of an owner who does not exist
		{15, 0, 0, false}, // in the list of another zone
		{21, 0, 0, false}, // an ability on the stack
		{22, 0, 0, false}, // not on the stack
		{3, 0, 0, false},  // gone
		{5, 0, 0, false},  // in no zone
		{10, 0, 0, false}, // the first object with this id is not there, but the second is
		{7, 0, 0, false},  // in a list, but no object
		{99, 0, 0, false}, {0, 0, 0, false}, {-1, 0, 0, false}, {math.MaxInt, 0, 0, false}, {math.MinInt, 0, 0, false},
	} {
		if zone, at, ok := Where(s, c.id); zone != c.zone || at != c.at || ok != c.ok {
			t.Errorf("Where(%d) = %d, %d, %v, want %d, %d, %v", c.id, zone, at, ok, c.zone, c.at, c.ok)
		}
	}
}
