package catalog_test

import (
	"math"
	"strings"
	"testing"

	"consistory/api"
	"consistory/catalog"
)

// limits: a schema with as much of everything as there may be.
func limits() api.Schema {
	var s api.Schema
	name := func(first string, i int) string {
		return strings.Repeat(first, api.MaxName-1) + string(rune('0'+i))
	}
	for i := range api.MaxTables {
		t := api.Table{Name: name("t", i)}
		for k := range api.MaxCols {
			t.Cols = append(t.Cols, api.Column{Name: name("c", k), Type: api.Bool + k%3, NotNull: true})
		}
		for k := range api.MaxKeys - 1 {
			t.Keys = append(t.Keys, api.Key{Name: name(string(rune('a'+i)), k), Cols: []int{5, 4, 3, 2, 1, 0}, Unique: k == 0})
		}
		t.Keys = append(t.Keys, api.Key{Cols: []int{0, 1, 2, 3, 4, 5}, Unique: true, Primary: true})
		s.Tables = append(s.Tables, t)
	}
	return s
}

func TestWhatIsASchema(t *testing.T) {
	for label, s := range map[string]api.Schema{
		"none":        {},
		"empty":       {Tables: []api.Table{}},
		"rich":        rich(t),
		"limits":      limits(),
		"empty lists": {Tables: []api.Table{{Name: "t", Cols: []api.Column{{Name: "a", Type: api.Int}}, Keys: []api.Key{}}}},
	} {
		if !catalog.Is(s) {
			t.Errorf("P11.1: %s: %s", label, show(s))
		}
	}
	for label, change := range map[string]func(s *api.Schema){
		"a column called as its table":       func(s *api.Schema) { s.Tables[0].Cols[0].Name = "t" },
		"a column called as another table":   func(s *api.Schema) { s.Tables[0].Cols[0].Name = "u" },
		"a column called as a key":           func(s *api.Schema) { s.Tables[0].Cols[0].Name = "i" },
		"a key called as a column":           func(s *api.Schema) { s.Tables[0].Keys[2].Name = "a" },
		"columns of two tables":              func(s *api.Schema) { s.Tables[1].Cols[0].Name = "a" },
		"no primary key":                     func(s *api.Schema) { s.Tables[0].Keys = s.Tables[0].Keys[1:] },
		"no keys":                            func(s *api.Schema) { s.Tables[0].Keys = nil },
		"no other tables":                    func(s *api.Schema) { s.Tables = s.Tables[:1] },
		"a primary key that isn't ahead":     func(s *api.Schema) { k := s.Tables[0].Keys; k[0], k[3] = k[3], k[0] },
		"two keys of the same columns":       func(s *api.Schema) { s.Tables[0].Keys[1].Cols[0] = 0 },
		"a unique key that may be NULL":      func(s *api.Schema) { s.Tables[0].Keys[3].Cols[0] = 1 },
		"a unique key with a name":           func(s *api.Schema) { s.Tables[0].Keys[2].Unique = true },
		"a key with a name that isn't":       func(s *api.Schema) { s.Tables[0].Keys[3].Unique = false },
		"a column that must not be NULL":     func(s *api.Schema) { s.Tables[0].Cols[1].NotNull = true },
		"one that may be NULL, in no key":    func(s *api.Schema) { s.Tables[2].Cols[0].NotNull = true },
		"a primary key less":                 func(s *api.Schema) { s.Tables[0].Keys[0].Primary = false },
		"types":                              func(s *api.Schema) { s.Tables[0].Cols[0].Type = api.Text },
		"a key's columns the other way":      func(s *api.Schema) { s.Tables[0].Keys[2].Cols = []int{0, 2, 1} },
		"a name of one byte that is no word": func(s *api.Schema) { s.Tables[0].Name = "_" },
	} {
		s := rich(t)
		change(&s)
		if !catalog.Is(s) {
			t.Errorf("P11.1: %s: %s", label, show(s))
		}
	}
}

func TestWhatIsNoSchema(t *testing.T) {
	for label, change := range map[string]func(s *api.Schema){
		"two tables of a name":                func(s *api.Schema) { s.Tables[2].Name = "t" },
		"a table called as its own key":       func(s *api.Schema) { s.Tables[0].Name = "i" },
		"a table called as a key ahead":       func(s *api.Schema) { s.Tables[1].Name = "j" },
		"a table called as a key behind":      func(s *api.Schema) { s.Tables[0].Name = "k" },
		"two keys of a name in a table":       func(s *api.Schema) { s.Tables[0].Keys[3].Name = "i" },
		"two keys of a name in two tables":    func(s *api.Schema) { s.Tables[1].Keys[2].Name = "i" },
		"two columns of a name":               func(s *api.Schema) { s.Tables[0].Cols[2].Name = "a" },
		"two columns of a name, side by side": func(s *api.Schema) { s.Tables[1].Cols[1].Name = "x" },
		"no columns":                          func(s *api.Schema) { s.Tables[2].Cols = nil },
		"no columns, a list":                  func(s *api.Schema) { s.Tables[2].Cols = []api.Column{} },
		"type 0":                              func(s *api.Schema) { s.Tables[0].Cols[0].Type = api.Null },
		"type 4":                              func(s *api.Schema) { s.Tables[0].Cols[2].Type = 4 },
		"type -1":                             func(s *api.Schema) { s.Tables[2].Cols[0].Type = -1 },
		"the greatest type":                   func(s *api.Schema) { s.Tables[2].Cols[0].Type = math.MaxInt },
		"the least type":                      func(s *api.Schema) { s.Tables[2].Cols[0].Type = math.MinInt },
		"a key without columns":               func(s *api.Schema) { s.Tables[0].Keys[2].Cols = nil },
		"a primary key without columns":       func(s *api.Schema) { s.Tables[0].Keys[0].Cols = []int{} },
		"a column -1 of a key":                func(s *api.Schema) { s.Tables[0].Keys[2].Cols[1] = -1 },
		"a column one past the last of a key": func(s *api.Schema) { s.Tables[0].Keys[2].Cols[1] = 3 },
		"the greatest column of a key":        func(s *api.Schema) { s.Tables[1].Keys[0].Cols[1] = math.MaxInt },
		"the least column of a key":           func(s *api.Schema) { s.Tables[1].Keys[0].Cols[0] = math.MinInt },
		"a column of another table":           func(s *api.Schema) { s.Tables[1].Keys[2].Cols[0] = 2 },
		"a column twice in a key":             func(s *api.Schema) { s.Tables[0].Keys[2].Cols = []int{2, 0, 2} },
		"a column twice in a primary key":     func(s *api.Schema) { s.Tables[1].Keys[0].Cols[0] = 0 },
		"a primary key that isn't unique":     func(s *api.Schema) { s.Tables[0].Keys[0].Unique = false },
		"a primary key with a name":           func(s *api.Schema) { s.Tables[0].Keys[0].Name = "p" },
		"a named key that is primary":         func(s *api.Schema) { s.Tables[0].Keys = s.Tables[0].Keys[3:]; s.Tables[0].Keys[0].Primary = true },
		"a primary key that may be NULL":      func(s *api.Schema) { s.Tables[0].Cols[0].NotNull = false },
		"its last column may be NULL":         func(s *api.Schema) { s.Tables[1].Cols[0].NotNull = false },
		"its first column may be NULL":        func(s *api.Schema) { s.Tables[1].Cols[1].NotNull = false },
		"two primary keys":                    func(s *api.Schema) { s.Tables[1].Keys[1].Primary = true },
		"a key without a name, not unique":    func(s *api.Schema) { s.Tables[0].Keys[1].Unique = false },
		"a key that has lost its name":        func(s *api.Schema) { s.Tables[0].Keys[2].Name = "" },
	} {
		s := rich(t)
		change(&s)
		if catalog.Is(s) {
			t.Errorf("P11.1: %s: %s", label, show(s))
		}
		if _, c := apply(t, s, statement(t, "DROP TABLE v")); c != api.ErrForm {
			t.Errorf("P11.3: %s: class %d", label, c)
		}
	}
}

// TestOnePastTheLimits: of a schema that is at all of them.
func TestOnePastTheLimits(t *testing.T) {
	for label, change := range map[string]func(s *api.Schema){
		"tables": func(s *api.Schema) {
			s.Tables = append(s.Tables, api.Table{Name: "a", Cols: []api.Column{{Name: "a", Type: api.Int}}})
		},
		"columns": func(s *api.Schema) {
			s.Tables[5].Cols = append(s.Tables[5].Cols, api.Column{Name: "a", Type: api.Int})
		},
		"keys": func(s *api.Schema) {
			s.Tables[0].Keys = append(s.Tables[0].Keys, api.Key{Name: "a", Cols: []int{0}})
		},
		"keys without a name": func(s *api.Schema) {
			s.Tables[0].Keys = append(s.Tables[0].Keys, api.Key{Cols: []int{0}, Unique: true})
		},
		"columns of a key": func(s *api.Schema) {
			s.Tables[3].Cols = append(s.Tables[3].Cols, api.Column{Name: "a", Type: api.Int})
			s.Tables[3].Keys[0].Cols = append(s.Tables[3].Keys[0].Cols, 6)
		},
		"a table's name":  func(s *api.Schema) { s.Tables[0].Name += "0" },
		"a column's name": func(s *api.Schema) { s.Tables[0].Cols[5].Name += "0" },
		"a key's name":    func(s *api.Schema) { s.Tables[5].Keys[0].Name += "0" },
	} {
		s := limits()
		change(&s)
		if catalog.Is(s) {
			t.Errorf("P11.1: one past: %s", label)
		}
	}
}

func TestNamesOfASchema(t *testing.T) {
	places := map[string]func(s *api.Schema, name string){
		"table":  func(s *api.Schema, name string) { s.Tables[1].Name = name },
		"column": func(s *api.Schema, name string) { s.Tables[1].Cols[1].Name = name },
		"key":    func(s *api.Schema, name string) { s.Tables[1].Keys[2].Name = name },
	}
	right := []string{"_", "a1", "selects", "z9_", strings.Repeat("z", 20)}
	wrong := []string{"T", "aB", "9", "1a", "select", "key", "a b", " a", "a.b", "é", "a\x00", "\xff", "-", strings.Repeat("z", 21), strings.Repeat("z", 1<<20)}
	for label, set := range places {
		for _, name := range right {
			s := rich(t)
			if set(&s, name); !catalog.Is(s) {
				t.Errorf("P11.1: %s %q", label, name)
			}
		}
		for _, name := range wrong {
			s := rich(t)
			if set(&s, name); catalog.Is(s) {
				t.Errorf("P11.1: %s %q", label, name)
			}
		}
	}
	for _, label := range []string{"table", "column"} {
		s := rich(t)
		if places[label](&s, ""); catalog.Is(s) {
			t.Errorf("P11.1: %s without a name", label)
		}
	}
	s := rich(t) // a key that is unique may be without one
	s.Tables[0].Keys[3].Name = ""
	if !catalog.Is(s) {
		t.Errorf("P11.1: %s", show(s))
	}
}

// TestGreatOnesEnd: what is far too long is seen to be, in a time that doesn't grow with the square of it.
func TestGreatOnesEnd(t *testing.T) {
	const n = 1 << 20
	table := api.Table{Name: "t", Cols: []api.Column{{Name: "a", Type: api.Int}}}
	numbers := make([]int, n)
	for i := range numbers {
		numbers[i] = i
	}
	for label, change := range map[string]func(s *api.Schema){
		"tables":           func(s *api.Schema) { s.Tables = many(n, table) },
		"columns":          func(s *api.Schema) { s.Tables[0].Cols = many(n, table.Cols[0]) },
		"keys":             func(s *api.Schema) { s.Tables[0].Keys = many(n, api.Key{Cols: []int{0}, Unique: true}) },
		"primary keys":     func(s *api.Schema) { s.Tables[0].Keys = many(n, api.Key{Cols: []int{0}, Unique: true, Primary: true}) },
		"columns of a key": func(s *api.Schema) { s.Tables[0].Keys = []api.Key{{Name: "i", Cols: numbers}} },
		"all of them": func(s *api.Schema) {
			s.Tables = many(n, api.Table{Name: "t", Cols: many(n, table.Cols[0]), Keys: many(n, api.Key{Cols: numbers, Unique: true})})
		},
	} {
		s := api.Schema{Tables: []api.Table{table}}
		change(&s)
		if catalog.Is(s) {
			t.Errorf("P11.1: far too many: %s", label)
		}
		if _, c := apply(t, s, statement(t, "CREATE TABLE u (a INT)")); c != api.ErrForm {
			t.Errorf("P11.3: far too many: %s: class %d", label, c)
		}
		if catalog.Find(s, "none") != -1 {
			t.Errorf("P11.2: far too many: %s", label)
		}
	}
}
