package clone

import (
	"reflect"
	"testing"

	"cardgame/api"
)

// fill gives every field below v a value that is not zero, and every slice two elements.
func fill(v reflect.Value) {
	switch v.Kind() {
	case reflect.Int:
		v.SetInt(7)
	case reflect.Uint64:
		v.SetUint(7)
	case reflect.Bool:
		v.SetBool(true)
	case reflect.String:
		v.SetString("fox")
	case reflect.Slice:
		v.Set(reflect.MakeSlice(v.Type(), 2, 2))
		fallthrough
	case reflect.Array:
		for i := range v.Len() {
			fill(v.Index(i))
		}
	case reflect.Struct:
		for i := range v.NumField() {
			fill(v.Field(i))
		}
	default:
		panic("fill does not know " + v.Kind().String())
	}
}

// wipe makes every element of every slice below v zero, the innermost slices first.
func wipe(v reflect.Value) {
	switch v.Kind() {
	case reflect.Slice:
		for i := range v.Len() {
			wipe(v.Index(i))
			v.Index(i).SetZero()
		}
	case reflect.Struct:
		for i := range v.NumField() {
			wipe(v.Field(i))
		}
	}
}

// filled returns the value with which fill fills a T.
func filled[T any]() T {
	var x T
	fill(reflect.ValueOf(&x).Elem())
	return x
}

// checkCopy checks that a copy is equal, and does not change with what it was copied from.
func checkCopy[T any](t *testing.T, copyOf func(x T) T) {
	original := filled[T]()
	result := copyOf(original)
	if !reflect.DeepEqual(result, filled[T]()) {
		t.Errorf("the copy of %v is %v", original, result)
	}
	wipe(reflect.ValueOf(&original).Elem())
	if reflect.DeepEqual(original, filled[T]()) {
		t.Fatal("wipe changes nothing")
	}
	if !reflect.DeepEqual(result, filled[T]()) {
		t.Errorf("the copy shares memory: %v", result)
	}
}

func TestTraits(t *testing.T) {
	checkCopy(t, Traits)
}

func TestState(t *testing.T) {
	checkCopy(t, State)
}

func TestTraitsWithoutElements(t *testing.T) {
	for _, x := range []api.Traits{
		{},
		{Line: api.Line{Subs: []string{}}, Abilities: []api.Ability{}},
		{Abilities: []api.Ability{{}}},
		{Abilities: []api.Ability{{Mods: []api.Mod{}, Specs: []api.Spec{}, Effects: []api.Effect{}}}},
		{Abilities: []api.Ability{{Effects: []api.Effect{{}, {Mods: []api.Mod{}}}}}},
	} {
		if result := Traits(x); !reflect.DeepEqual(result, x) {
			t.Errorf("the copy of %#v is %#v", x, result)
		}
	}
}

func TestStateWithoutElements(t *testing.T) {
	for _, x := range []api.State{
		{},
		{Players: []api.Player{}, Objects: []api.Object{}, Battlefield: []int{}, Exile: []int{}, Stack: []api.Item{}},
		{Waiting: []api.Waiting{}, Conts: []api.Cont{}, Extra: []int{}},
		{Players: []api.Player{{}, {Library: []int{}, Hand: []int{}, Graveyard: []int{}}}},
		{Stack: []api.Item{{}, {Targets: []api.Target{}, Ability: api.Ability{Mods: []api.Mod{}}}}},
		{Waiting: []api.Waiting{{}, {Ability: api.Ability{Effects: []api.Effect{{}}}}}, Conts: []api.Cont{{}, {Objects: []int{}, Mods: []api.Mod{}}}},
	} {
		if result := State(x); !reflect.DeepEqual(result, x) {
			t.Errorf("the copy of %#v is %#v", x, result)
		}
	}
}
