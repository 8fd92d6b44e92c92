package same

import (
	"reflect"
	"testing"

	"cardgame/api"
)

// fill gives every field below v a value that is not zero, and every slice two elements.
func fill(v reflect.Value) {
	switch v.Kind() {
	case reflect.Int:
		v.SetInt(7)
	case reflect.Bool:
		v.SetBool(true)
	case reflect.String:
		v.SetString("fox")
	case reflect.Slice:
		v.Set(reflect.MakeSlice(v.Type(), 2, 2))
		fallthrough
	case reflect.Array:
		for i := range v.Len() {
			fill(v.Index(i))
		}
	case reflect.Struct:
		for i := range v.NumField() {
			fill(v.Field(i))
		}
	default:
		panic("fill does not know " + v.Kind().String())
	}
}

// change calls check with every single change of what is below v: each number, bool and string, and each slice shorter or
// longer. It undoes each change.
func change(v reflect.Value, check func(path string), path string) {
	old := reflect.New(v.Type()).Elem()
	old.Set(v)
	set := func(to reflect.Value) {
		v.Set(to)
		check(path)
		v.Set(old)
	}
	switch v.Kind() {
	case reflect.Int:
		set(reflect.ValueOf(int(v.Int()) + 1))
		set(reflect.ValueOf(0))
	case reflect.Bool:
		set(reflect.ValueOf(!v.Bool()))
	case reflect.String:
		set(reflect.ValueOf(v.String() + "x"))
		set(reflect.ValueOf(""))
	case reflect.Slice:
		set(v.Slice(0, v.Len()-1))
		set(reflect.Append(v.Slice3(0, v.Len(), v.Len()), v.Index(0)))
		set(reflect.Zero(v.Type()))
		fallthrough
	case reflect.Array:
		for i := range v.Len() {
			change(v.Index(i), check, path+"[]")
		}
	case reflect.Struct:
		for i := range v.NumField() {
			change(v.Field(i), check, path+"."+v.Type().Field(i).Name)
		}
	}
}

func filled() api.Ability {
	var a api.Ability
	fill(reflect.ValueOf(&a).Elem())
	return a
}

func TestAbility(t *testing.T) {
	if !Ability(filled(), filled()) || !Ability(api.Ability{}, api.Ability{}) {
		t.Error("equal abilities are different")
	}
	a, b := filled(), filled()
	changes := 0
	change(reflect.ValueOf(&a).Elem(), func(path string) {
		changes++
		if Ability(a, b) || Ability(b, a) {
			t.Errorf("a change of %s leaves abilities equal", path)
		}
	}, "")
	if changes < 100 || !Ability(a, b) {
		t.Errorf("%d changes, of which one was not undone", changes)
	}
}

func TestAbilityOfEmptyLists(t *testing.T) {
	none := []api.Ability{
		{Kind: 1},
		{Kind: 1, Mods: []api.Mod{}, Specs: []api.Spec{}, Effects: []api.Effect{}},
	}
	one := []api.Ability{
		{Effects: []api.Effect{{Op: 1}}},
		{Effects: []api.Effect{{Op: 1, Mods: []api.Mod{}}}},
	}
	for _, pair := range [][]api.Ability{none, one} {
		if !Ability(pair[0], pair[1]) || !Ability(pair[1], pair[0]) {
			t.Errorf("%#v and %#v are different", pair[0], pair[1])
		}
	}
	if Ability(none[0], one[0]) {
		t.Error("different abilities are equal")
	}
}
