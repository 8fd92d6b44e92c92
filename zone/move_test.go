package zone

import (
	"math"
	"slices"
	"testing"

	"cardgame/api"
	"cardgame/object"
)

// withList returns s with the list of a zone replaced by f of it, if there is such a list.
func withList(s api.State, zone, player int, f func(l []int) []int) api.State {
	exists := player >= 0 && player < len(s.Players)
	switch {
	case zone == 0:
		s.Battlefield = f(s.Battlefield)
	case zone == 4:
		s.Exile = f(s.Exile)
	case zone == 1 && exists:
		s.Players[player].Hand = f(s.Players[player].Hand)
	case zone == 2 && exists:
		s.Players[player].Library = f(s.Players[player].Library)
	case zone == 3 && exists:
		s.Players[player].Graveyard = f(s.Players[player].Graveyard)
	}
	return s
}

// moveAsDefined is the definition of Move. It changes s.
func moveAsDefined(s api.State, id, zone, control int, bottom bool) (api.State, int) {
	at := slices.IndexFunc(s.Objects, func(o api.Object) bool { return o.Id == id })
	if at < 0 || zone < 0 || zone > 5 {
		return s, 0
	}
	o := s.Objects[at]
	s.Objects = append(slices.Clone(s.Objects[:at]), s.Objects[at+1:]...)
	s = withList(s, o.Zone, o.Owner, func(l []int) []int {
		return slices.DeleteFunc(l, func(n int) bool { return n == id })
	})
	var stack []api.Item
	for _, i := range s.Stack {
		if i.Id != id || i.Kind != 1 {
			stack = append(stack, i)
		}
	}
	s.Stack = stack
	if o.Token && zone != 0 && zone != 5 {
		return s, 0
	}
	entered := s.NextId
	s.Objects = putAsDefined(s.Objects, object.Moved(o, entered, zone, control, s.NextStamp))
	s = withList(s, zone, o.Owner, func(l []int) []int {
		if zone == 2 && !bottom {
			return append([]int{entered}, l...)
		}
		return append(l, entered)
	})
	s.NextId, s.NextStamp = s.NextId+1, s.NextStamp+1
	return s, entered
}

func TestMove(t *testing.T) { // P25.4
	moves := 0
	for run := range runs {
		s := messy(run)
		for id := -2; id <= 7; id++ {
			for _, zone := range []int{-1, 0, 1, 2, 3, 4, 5, 6} {
				for _, bottom := range []bool{false, true} {
					control := run%6 - 1
					want, wantId := moveAsDefined(messy(run), id, zone, control, bottom)
					result, entered := Move(s, id, zone, control, bottom)
					checkResult(t, "Move", run, s, result, want)
					if entered != wantId {
						t.Errorf("run %d: %d became %d, want %d", run, id, entered, wantId)
					}
					if !equal(result, s) {
						moves++
					}
				}
			}
		}
	}
	if moves < runs {
		t.Errorf("%d moves", moves)
	}
}

// table returns a valid state of a game with two players. Each of them owns an object in each zone, a token, and more cards in
// its library.
func table() api.State {
	s := api.State{
		Players: []api.Player{
			{Life: 20, Library: []int{1, 19}, Hand: []int{2}, Graveyard: []int{3}},
			{Life: 20, Library: []int{4, 20, 21}, Hand: []int{5}, Graveyard: []int{6}},
		},
		Battlefield: []int{7, 12, 9, 14}, Exile: []int{8, 10},
		Stack: []api.Item{
			{Id: 16, Kind: api.ItSpell, Source: 16},
			{Id: 17, Kind: api.ItAbility, Source: 7, Targets: []api.Target{{Object: 16}}},
			{Id: 18, Kind: api.ItSpell, Source: 18, Control: 1},
		},
		NextId: 30, NextStamp: 40, Winner: -1,
	}
	for _, o := range []api.Object{
		object.New(1, 0, 0, api.ZLibrary, 1), object.New(2, 1, 0, api.ZHand, 2), object.New(3, 2, 0, api.ZGraveyard, 3),
		object.New(4, 3, 1, api.ZLibrary, 4), object.New(5, 4, 1, api.ZHand, 5), object.New(6, 5, 1, api.ZGraveyard, 6),
		object.New(7, 6, 0, api.ZBattlefield, 7), object.New(8, 7, 0, api.ZExile, 8), object.New(9, 8, 1, api.ZBattlefield, 9),
		object.New(10, 9, 1, api.ZExile, 10), object.New(12, 10, 0, api.ZBattlefield, 12), object.New(14, 11, 1, api.ZBattlefield, 14),
		object.New(16, 12, 0, api.ZStack, 16), object.New(18, 13, 1, api.ZStack, 18), object.New(19, 14, 0, api.ZLibrary, 19),
		object.New(20, 15, 1, api.ZLibrary, 20), object.New(21, 16, 1, api.ZLibrary, 21),
	} {
		o.Token = o.Id == 12 || o.Id == 14
		o.Tapped = o.Id == 9
		if o.Id == 9 {
			o.Counters, o.Damage, o.Control = [api.Counters]int{2, 0, 1}, 3, 0
		}
		s.Objects = append(s.Objects, o)
	}
	return s
}

// P25.4: from a hand to the battlefield, under the control of each player.
func TestMoveToBattlefield(t *testing.T) {
	for control := range 2 {
		s, id := Move(table(), 5, api.ZBattlefield, control, false)
		o, found := Find(s, 30)
		want := api.Object{Id: 30, Card: 4, Owner: 1, Control: control, Zone: api.ZBattlefield, Sick: true, Stamp: 40, Copy: -1, Attack: -1}
		if id != 30 || !found || o != want || s.NextId != 31 || s.NextStamp != 41 {
			t.Errorf("%d, %+v", id, o)
		}
		if !slices.Equal(s.Battlefield, []int{7, 12, 9, 14, 30}) || len(s.Players[1].Hand) != 0 {
			t.Errorf("%+v", s)
		}
		if _, found := Find(s, 5); found || s.Objects[len(s.Objects)-1] != o || len(s.Objects) != len(table().Objects) {
			t.Errorf("%+v", s.Objects)
		}
	}
}

// P25.4: a creature that another player controls goes to the zones of its owner, and becomes new.
func TestMoveToZonesOfOwner(t *testing.T) {
	for _, c := range []struct {
		zone   int
		bottom bool
		want   func(s *api.State) *[]int
		list   []int
	}{
		{api.ZHand, false, func(s *api.State) *[]int { return &s.Players[1].Hand }, []int{5, 30}},
		{api.ZHand, true, func(s *api.State) *[]int { return &s.Players[1].Hand }, []int{5, 30}},
		{api.ZLibrary, false, func(s *api.State) *[]int { return &s.Players[1].Library }, []int{30, 4, 20, 21}},
		{api.ZLibrary, true, func(s *api.State) *[]int { return &s.Players[1].Library }, []int{4, 20, 21, 30}},
		{api.ZGraveyard, false, func(s *api.State) *[]int { return &s.Players[1].Graveyard }, []int{6, 30}},
		{api.ZGraveyard, true, func(s *api.State) *[]int { return &s.Players[1].Graveyard }, []int{6, 30}},
		{api.ZExile, false, func(s *api.State) *[]int { return &s.Exile }, []int{8, 10, 30}},
		{api.ZExile, true, func(s *api.State) *[]int { return &s.Exile }, []int{8, 10, 30}},
		{api.ZStack, true, func(*api.State) *[]int { return nil }, nil},
	} {
		s, id := Move(table(), 9, c.zone, 0, c.bottom)
		want := table()
		want.NextId, want.NextStamp = 31, 41
		want.Battlefield = []int{7, 12, 14}
		if l := c.want(&want); l != nil {
			*l = c.list
		}
		want.Objects = slices.Delete(want.Objects, 8, 9)
		entered := object.New(30, 8, 1, c.zone, 40)
		if c.zone == api.ZStack {
			entered.Control = 0
		}
		want.Objects = append(want.Objects, entered)
		if id != 30 || !equal(s, want) {
			t.Errorf("to zone %d, bottom %v: %d\n%+v, want\n%+v", c.zone, c.bottom, id, s, want)
		}
	}
}

// P25.4: an object may move within its zone.
func TestMoveWithinZone(t *testing.T) {
	for _, c := range []struct {
		id     int
		bottom bool
		want   []int
	}{{20, false, []int{30, 4, 21}}, {20, true, []int{4, 21, 30}}, {4, false, []int{30, 20, 21}}, {21, true, []int{4, 20, 30}}} {
		s, id := Move(table(), c.id, api.ZLibrary, 0, c.bottom)
		if l := List(s, api.ZLibrary, 1); id != 30 || !slices.Equal(l, c.want) {
			t.Errorf("%d: %v", c.id, l)
		}
	}
	s, _ := Move(table(), 7, api.ZBattlefield, 1, false)
	if !slices.Equal(s.Battlefield, []int{12, 9, 14, 30}) {
		t.Error(s.Battlefield)
	}
}

// P25.4: a spell leaves the stack, and abilities stay, also one with its id.
func TestMoveOfSpells(t *testing.T) {
	s, id := Move(table(), 16, api.ZGraveyard, 0, false)
	if id != 30 || len(s.Stack) != 2 || s.Stack[0].Id != 17 || s.Stack[1].Id != 18 || !slices.Equal(s.Players[0].Graveyard, []int{3, 30}) {
		t.Errorf("%d, %+v", id, s)
	}
	s, id = Move(table(), 18, api.ZStack, 0, false)
	if o, _ := Find(s, id); len(s.Stack) != 2 || o.Zone != api.ZStack || o.Control != 0 || o.Owner != 1 || o.Sick {
		t.Errorf("%+v", s)
	}
	s = table()
	s.Stack = append(s.Stack, api.Item{Id: 16, Kind: api.ItAbility}, api.Item{Id: 16, Kind: api.ItSpell}, api.Item{Id: 7, Kind: api.ItSpell})
	s, _ = Move(s, 16, api.ZExile, 0, false)
	if len(s.Stack) != 4 || s.Stack[2].Kind != api.ItAbility || s.Stack[3].Id != 7 {
		t.Errorf("%+v", s.Stack)
	}
	// Items of objects in other zones go as well.
	s, _ = Move(s, 7, api.ZExile, 0, false)
	if len(s.Stack) != 3 || s.Stack[2].Id != 16 {
		t.Errorf("%+v", s.Stack)
	}
}

// P25.4, P25.6: where a token is gone, and where it stays.
func TestMoveOfTokens(t *testing.T) {
	for zone := range api.ZGone {
		s, id := Move(table(), 14, zone, 0, false)
		want := table()
		if zone == api.ZBattlefield || zone == api.ZStack {
			o, found := Find(s, 30)
			if id != 30 || !found || !o.Token || o.Control != 0 || o.Owner != 1 || s.NextId != 31 || s.NextStamp != 41 || len(s.Objects) != len(want.Objects) {
				t.Errorf("zone %d: %d, %+v", zone, id, o)
			}
			continue
		}
		want.Objects = slices.Delete(want.Objects, 11, 12)
		want.Battlefield = []int{7, 12, 9}
		if id != 0 || !equal(s, want) {
			t.Errorf("zone %d: %d, %+v", zone, id, s)
		}
	}
}

// P25.4: no such object or zone.
func TestMoveOfNothing(t *testing.T) {
	for _, c := range [][2]int{
		{0, api.ZHand}, {-1, api.ZHand}, {11, api.ZExile}, {17, api.ZGraveyard}, {30, api.ZBattlefield}, {math.MaxInt, api.ZStack}, {math.MinInt, api.ZStack},
		{1, -1}, {1, api.ZGone}, {12, api.ZGone}, {12, -1}, {16, 7}, {1, math.MaxInt}, {1, math.MinInt}, {99, 99},
	} {
		for _, bottom := range []bool{false, true} {
			argument := table()
			s, id := Move(argument, c[0], c[1], 1, bottom)
			if id != 0 || !equal(s, table()) || !areApart(s, argument) {
				t.Errorf("%d to zone %d: %d, %+v", c[0], c[1], id, s)
			}
		}
	}
	if s, id := Move(api.State{}, 0, 0, 0, false); id != 0 || !equal(s, api.State{}) {
		t.Errorf("%d, %+v", id, s)
	}
}

// P25.4: the id is removed from the list of the zone of the owner wherever it occurs there, and from no other list.
func TestMoveRemovesFromOneList(t *testing.T) {
	s := table()
	s.Players[1].Hand = []int{5, 1, 5, 5, 2, 5}
	s.Players[0].Hand = []int{5, 5}
	s.Players[1].Library = []int{5}
	s.Battlefield, s.Exile, s.Extra = []int{5}, []int{5}, []int{5}
	s, _ = Move(s, 5, api.ZGraveyard, 1, false)
	if !slices.Equal(s.Players[1].Hand, []int{1, 2}) || !slices.Equal(s.Players[0].Hand, []int{5, 5}) || !slices.Equal(s.Players[1].Library, []int{5}) {
		t.Errorf("%+v", s.Players)
	}
	if len(s.Battlefield)+len(s.Exile)+len(s.Extra) != 3 {
		t.Errorf("%+v", s)
	}
}

// P25.4, P25.5: ids and timestamps above MaxNum are like others.
func TestGreatIds(t *testing.T) {
	for _, n := range []int{api.MaxNum - 1, api.MaxNum, api.MaxNum + 1, 1 << 32, math.MaxInt - 1} {
		start := table()
		start.NextId, start.NextStamp = n, n-1
		moved, id := Move(start, 1, api.ZHand, 0, false)
		o, _ := Find(moved, n)
		if id != n || o.Card != 0 || o.Stamp != n-1 || moved.NextId != n+1 || moved.NextStamp != n || !slices.Equal(moved.Players[0].Hand, []int{2, n}) {
			t.Errorf("%d, %+v", id, moved)
		}
		made, id := Make(start, 4, 0)
		o, _ = Find(made, n)
		if id != n || o.Card != 4 || o.Stamp != n-1 || made.NextId != n+1 || made.NextStamp != n || made.Battlefield[4] != n {
			t.Errorf("%d, %+v", id, made)
		}
	}
}

func TestMake(t *testing.T) { // P25.5
	for run := range runs {
		s := messy(run)
		for _, l := range [][2]int{{2, 0}, {0, 1}, {3, run%8 - 2}, {-1, 5}, {math.MaxInt, math.MinInt}, {math.MinInt, math.MaxInt}} {
			o := api.Object{
				Id: s.NextId, Card: l[0], Owner: l[1], Control: l[1], Zone: 0, Token: true, Sick: true, Stamp: s.NextStamp, Copy: -1, Attack: -1,
			}
			want := messy(run)
			want.Objects = putAsDefined(want.Objects, o)
			want.Battlefield = append(want.Battlefield, s.NextId)
			want.NextId, want.NextStamp = s.NextId+1, s.NextStamp+1
			result, id := Make(s, l[0], l[1])
			checkResult(t, "Make", run, s, result, want)
			if id != s.NextId {
				t.Errorf("run %d: Make(%v) made %d", run, l, id)
			}
		}
	}
}

// P25.5: tokens get their ids one after the other.
func TestMakeTwice(t *testing.T) {
	first, a := Make(table(), 10, 0)
	second, b := Make(first, 11, 1)
	o, _ := Find(second, 30)
	p, _ := Find(second, 31)
	if a != 30 || b != 31 || o.Card != 10 || o.Owner != 0 || o.Stamp != 40 || p.Card != 11 || p.Control != 1 || p.Stamp != 41 || !p.Token || !p.Sick {
		t.Errorf("%+v, %+v", o, p)
	}
	if !slices.Equal(second.Battlefield, []int{7, 12, 9, 14, 30, 31}) || second.NextId != 32 || second.NextStamp != 42 || len(first.Battlefield) != 5 {
		t.Errorf("%+v", second)
	}
}

// checkPlaces checks that the objects are in increasing order, each in its zone, and that the lists contain nothing else.
func checkPlaces(t *testing.T, s api.State) {
	t.Helper()
	places := 0
	for player := range s.Players {
		places += len(s.Players[player].Library) + len(s.Players[player].Hand) + len(s.Players[player].Graveyard)
	}
	places += len(s.Battlefield) + len(s.Exile)
	for _, i := range s.Stack {
		if i.Kind == api.ItSpell {
			places++
		}
	}
	if places != len(s.Objects) {
		t.Fatalf("%d objects in %d places", len(s.Objects), places)
	}
	last := 0
	for _, o := range s.Objects {
		zone, _, ok := Where(s, o.Id)
		if !ok || zone != o.Zone || o.Id <= last || o.Id >= s.NextId || o.Stamp >= s.NextStamp || !object.Is(o, 20, 2) {
			t.Fatalf("%+v is in zone %d, %v", o, zone, ok)
		}
		last = o.Id
	}
}

// P25.6, P24.4: a long game of moves keeps a valid state valid, and the number of objects unless a token is gone or made.
func TestMovesOfAGame(t *testing.T) {
	s := table()
	checkPlaces(t, s)
	d := dice(25)
	gone := 0
	for range 3000 {
		size := len(s.Objects)
		o := s.Objects[d.below(size)]
		if d.below(20) == 0 {
			made, id := Make(s, d.below(20), d.below(2))
			if p, found := Find(made, id); !found || !p.Token || len(made.Objects) != size+1 {
				t.Fatalf("%+v was made", p)
			}
			s = made
			continue
		}
		moved, id := Move(s, o.Id, d.below(api.ZGone), d.below(2), d.below(2) == 0)
		if id == 0 {
			gone++
			size--
		} else if p, found := Find(moved, id); !found || p.Card != o.Card || p.Owner != o.Owner || p.Token != o.Token {
			t.Fatalf("%+v became %+v", o, p)
		} else if p.Zone == api.ZStack {
			moved.Stack = append(moved.Stack, api.Item{Id: id, Kind: api.ItSpell, Source: id})
		}
		if _, found := Find(moved, o.Id); found || len(moved.Objects) != size || id == 0 && !o.Token {
			t.Fatalf("%d objects of %d, %+v became %d", len(moved.Objects), size, o, id)
		}
		checkPlaces(t, moved)
		s = moved
	}
	if gone < 20 {
		t.Errorf("%d tokens are gone", gone)
	}
}
