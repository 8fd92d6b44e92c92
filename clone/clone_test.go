package clone

import (
	"reflect"
	"testing"

	"cardgame/api"
)

// fill gives every field below v a value that is not zero, and every slice two elements.
func fill(v reflect.Value) {
	switch v.Kind() {
	case reflect.Int:
		v.SetInt(7)
	case reflect.Uint64:
		v.SetUint(7)
	case reflect.Bool:
		v.SetBool(true)
	case reflect.String:
		v.SetString("fox")
	case reflect.Slice:
		v.Set(reflect.MakeSlice(v.Type(), 2, 2))
		fallthrough
	case reflect.Array:
		for i := range v.Len() {
			fill(v.Index(i))
		}
	case reflect.Struct:
		for i := range v.NumField() {
			fill(v.Field(i))
		}
	default:
		panic("fill does not know " + v.Kind().String())
	}
}

// wipe makes every element of every slice below v zero, the innermost slices first.
func wipe(v reflect.Value) {
	switch v.Kind() {
	case reflect.Slice:
		for i := range v.Len() {
			wipe(v.Index(i))
			v.Index(i).SetZero()
		}
	case reflect.Struct:
		for i := range v.NumField() {
			wipe(v.Field(i))
		}
	}
}

func filled() api.Traits {
	var t api.Traits
	fill(reflect.ValueOf(&t).Elem())
	return t
}

// A copy is equal, and does not change with what it was copied from.
func TestTraits(t *testing.T) {
	original := filled()
	result := Traits(original)
	if !reflect.DeepEqual(result, filled()) {
		t.Errorf("the copy of %v is %v", original, result)
	}
	wipe(reflect.ValueOf(&original).Elem())
	if reflect.DeepEqual(original, filled()) {
		t.Fatal("wipe changes nothing")
	}
	if !reflect.DeepEqual(result, filled()) {
		t.Errorf("the copy shares memory: %v", result)
	}
}

func TestTraitsWithoutElements(t *testing.T) {
	for _, x := range []api.Traits{
		{},
		{Line: api.Line{Subs: []string{}}, Abilities: []api.Ability{}},
		{Abilities: []api.Ability{{}}},
		{Abilities: []api.Ability{{Mods: []api.Mod{}, Specs: []api.Spec{}, Effects: []api.Effect{}}}},
		{Abilities: []api.Ability{{Effects: []api.Effect{{}, {Mods: []api.Mod{}}}}}},
	} {
		if result := Traits(x); !reflect.DeepEqual(result, x) {
			t.Errorf("the copy of %#v is %#v", x, result)
		}
	}
}
