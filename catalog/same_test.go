package catalog_test

import (
	"reflect"
	"testing"

	"consistory/api"
	"consistory/catalog"
)

func TestSame(t *testing.T) {
	for _, s := range []api.Schema{{}, rich(t), limits(), {Tables: make([]api.Table, 7)}, {Tables: []api.Table{{Name: "T", Keys: []api.Key{{Cols: []int{-1}}}}}}} {
		if !catalog.Same(s, s) || !catalog.Same(s, deepCopy(s)) {
			t.Errorf("P11.4: unlike itself: %s", show(s))
		}
	}
	if !catalog.Same(rich(t), rich(t)) {
		t.Error("P11.4: made twice")
	}
}

// other changes what is there into something else.
func other(v reflect.Value) {
	switch v.Kind() {
	case reflect.Int:
		v.SetInt(v.Int() + 1)
	case reflect.Bool:
		v.SetBool(!v.Bool())
	case reflect.String:
		v.SetString(v.String() + "x")
	case reflect.Slice:
		v.Set(reflect.Append(v, reflect.New(v.Type().Elem()).Elem()))
	}
}

// TestSameAsksForAll: whatever one of two has otherwise is seen, from both sides.
func TestSameAsksForAll(t *testing.T) {
	n := len(spots(&api.Schema{Tables: rich(t).Tables}))
	for i := range n {
		a, b := rich(t), rich(t)
		place := spots(&b)[i]
		if place.v.Kind() == reflect.Struct {
			continue
		}
		other(place.v)
		if catalog.Same(a, b) || catalog.Same(b, a) {
			t.Errorf("P11.4: %s: alike", place.path)
		}
		if place.v.Kind() == reflect.Slice {
			place.v.SetLen(place.v.Len() - 1)
			if !catalog.Same(a, b) {
				t.Errorf("P11.4: %s: the room behind it counts", place.path)
			}
		}
	}
}

func TestSameAsksForTheOrder(t *testing.T) {
	for label, swap := range map[string]func(s *api.Schema){
		"tables":           func(s *api.Schema) { l := s.Tables; l[0], l[1] = l[1], l[0] },
		"columns":          func(s *api.Schema) { l := s.Tables[0].Cols; l[0], l[1] = l[1], l[0] },
		"keys":             func(s *api.Schema) { l := s.Tables[0].Keys; l[0], l[1] = l[1], l[0] },
		"columns of a key": func(s *api.Schema) { l := s.Tables[0].Keys[2].Cols; l[0], l[1] = l[1], l[0] },
	} {
		a, b := rich(t), rich(t)
		swap(&b)
		if catalog.Same(a, b) || catalog.Same(b, a) {
			t.Errorf("P11.4: %s the other way round: alike", label)
		}
		swap(&a)
		if !catalog.Same(a, b) {
			t.Errorf("P11.4: %s: unlike", label)
		}
	}
}

func TestNilIsEmpty(t *testing.T) {
	none := api.Schema{Tables: []api.Table{{Name: "t", Keys: []api.Key{{Name: "i"}}}, {}}}
	empty := api.Schema{Tables: []api.Table{{Name: "t", Cols: []api.Column{}, Keys: []api.Key{{Name: "i", Cols: []int{}}}}, {Keys: []api.Key{}}}}
	if !catalog.Same(none, empty) || !catalog.Same(empty, none) || !catalog.Same(api.Schema{}, api.Schema{Tables: []api.Table{}}) {
		t.Error("rule 2: nil and empty are one")
	}
}
