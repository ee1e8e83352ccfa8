package catalog_test

import (
	"testing"

	"consistory/api"
	"consistory/catalog"
)

func TestFind(t *testing.T) {
	s := rich(t)
	for name, want := range map[string]int{
		"t": 0, "u": 1, "v": 2, // a table's
		"i": -1, "j": -1, "k": -1, // a key's
		"a": -1, "x": -1, // a column's
		"": -1, "T": -1, "tt": -1, "w": -1, "\xff": -1,
	} {
		if got := catalog.Find(s, name); got != want {
			t.Errorf("P11.2: Find of %q: %d, want %d", name, got, want)
		}
		if got := catalog.Find(api.Schema{}, name); got != -1 {
			t.Errorf("P11.2: Find of %q where there is nothing: %d", name, got)
		}
	}
}

func TestFindKey(t *testing.T) {
	s := rich(t)
	none := [2]int{-1, -1}
	for name, want := range map[string][2]int{
		"i": {0, 2}, "j": {0, 3}, "k": {1, 2}, // a key's
		"t": none, "u": none, "v": none, // a table's
		"a": none, "x": none, // a column's
		"": none, "I": none, "ii": none, "w": none, "\xff": none,
	} {
		if table, key := catalog.FindKey(s, name); [2]int{table, key} != want {
			t.Errorf("P11.2: FindKey of %q: %d, %d, want %v", name, table, key, want)
		}
		if table, key := catalog.FindKey(api.Schema{}, name); table != -1 || key != -1 {
			t.Errorf("P11.2: FindKey of %q where there is nothing: %d, %d", name, table, key)
		}
	}
}

// TestFindInNoSchema: it is looked for all the same, and the first one is told.
func TestFindInNoSchema(t *testing.T) {
	s := api.Schema{Tables: []api.Table{
		{Name: "T"},
		{Name: "u", Keys: []api.Key{{Name: "K"}, {}, {Name: "k"}}},
		{Name: "u", Keys: []api.Key{{Name: "k"}, {Name: "l"}, {Name: "l"}}},
	}}
	for name, want := range map[string][3]int{"T": {0, -1, -1}, "u": {1, -1, -1}, "K": {-1, 1, 0}, "k": {-1, 1, 2}, "l": {-1, 2, 1}, "": {-1, -1, -1}} {
		table, key := catalog.FindKey(s, name)
		if got := [3]int{catalog.Find(s, name), table, key}; got != want {
			t.Errorf("P11.2: %q: %v, want %v", name, got, want)
		}
	}
}
