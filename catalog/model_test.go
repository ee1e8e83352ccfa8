package catalog_test

import (
	"fmt"
	"regexp"
	"slices"
	"strings"

	"consistory/api"
	"consistory/tree"
)

// A second saying of the chapter: schemas as they are shown, and each error asked for by itself, ahead of what is made.

// theWords: those that are no names, as chapter 8 has them.
const theWords = " AND AS ASC BETWEEN BOOL BY CASE COUNT CREATE DELETE DESC DISTINCT DROP ELSE END FALSE FROM GROUP HAVING IN INDEX INSERT INT INTO IS JOIN KEY LEFT LIMIT MAX MIN NOT NULL ON OR ORDER PRIMARY SELECT SET SUM TABLE TEXT THEN TRUE UNIQUE UPDATE VALUES WHEN WHERE "

var nameForm = regexp.MustCompile(`^[a-z_][a-z0-9_]{0,19}$`)

func isName(s string) bool {
	return nameForm.MatchString(s) && !strings.Contains(theWords, " "+strings.ToUpper(s)+" ")
}

// hasTwice: whether two of l are alike.
func hasTwice[T comparable](l []T) bool {
	seen := map[T]int{}
	for _, e := range l {
		seen[e]++
	}
	return len(seen) < len(l)
}

func modelIs(s api.Schema) bool {
	var names []string
	for _, t := range s.Tables {
		if !modelIsTable(t) {
			return false
		}
		names = append(names, t.Name)
		for _, k := range t.Keys {
			if k.Name != "" {
				names = append(names, k.Name)
			}
		}
	}
	return len(s.Tables) <= 6 && !hasTwice(names)
}

func modelIsTable(t api.Table) bool {
	var names []string
	for _, c := range t.Cols {
		if !isName(c.Name) || c.Type != api.Bool && c.Type != api.Int && c.Type != api.Text {
			return false
		}
		names = append(names, c.Name)
	}
	primaries := 0
	for _, k := range t.Keys {
		if !modelIsKey(k, t.Cols) {
			return false
		}
		if k.Primary {
			primaries++
		}
	}
	return isName(t.Name) && len(names) >= 1 && len(names) <= 6 && !hasTwice(names) && len(t.Keys) <= 4 && primaries <= 1
}

func modelIsKey(k api.Key, cols []api.Column) bool {
	for _, n := range k.Cols {
		if n < 0 || n > len(cols)-1 || k.Primary && !cols[n].NotNull {
			return false
		}
	}
	return len(k.Cols) >= 1 && len(k.Cols) <= 6 && !hasTwice(k.Cols) &&
		(isName(k.Name) || k.Name == "") &&
		(k.Unique || !k.Primary && k.Name != "") &&
		(!k.Primary || k.Name == "")
}

// modelApply tells what Apply must: its class, or what it makes, as it is shown.
func modelApply(s api.Schema, x api.Stmt) string {
	if !modelIs(s) || !tree.Is(x) || x.Kind >= api.SInsert {
		return "class 20"
	}
	tables := map[string]int{}
	keys := map[string][2]int{}
	shown := make([]string, len(s.Tables))
	for i, t := range s.Tables {
		tables[t.Name] = i
		shown[i] = show(api.Schema{Tables: []api.Table{t}})
		for k, key := range t.Keys {
			if key.Name != "" {
				keys[key.Name] = [2]int{i, k}
			}
		}
	}
	isTable := func(name string) bool { _, there := tables[name]; return there }
	isKey := func(name string) bool { _, there := keys[name]; return there }
	switch x.Kind {
	case api.SCreate:
		if isTable(x.Table.Name) || isKey(x.Table.Name) {
			return "class 3"
		}
		one := modelCreate(x, len(s.Tables))
		if strings.HasPrefix(one, "class ") {
			return one
		}
		shown = append(shown, one)
	case api.SIndex:
		if !isTable(x.Name) || isTable(x.Index) || isKey(x.Index) {
			return "class 3"
		}
		i := tables[x.Name]
		at, right := modelNumbers(s.Tables[i].Cols, x.Cols)
		if !right {
			return "class 3"
		}
		if len(s.Tables[i].Keys) == 4 {
			return "class 2"
		}
		shown[i] += ", " + mark(x.Unique, "U") + x.Index + at
	case api.SDrop:
		if !isTable(x.Name) {
			return "class 3"
		}
		shown = slices.Delete(shown, tables[x.Name], tables[x.Name]+1)
	case api.SUnindex:
		if !isKey(x.Index) {
			return "class 3"
		}
		at := keys[x.Index]
		parts := strings.Split(shown[at[0]], ", ")
		k := len(s.Tables[at[0]].Cols) + at[1]
		shown[at[0]] = strings.Join(slices.Delete(parts, k, k+1), ", ")
	}
	return strings.Join(shown, "; ")
}

// modelNumbers tells those of the columns, as a key shows them, if all are there and none twice.
func modelNumbers(cols []api.Column, names []string) (string, bool) {
	var at []string
	for _, name := range names {
		for i, c := range cols {
			if c.Name == name {
				at = append(at, fmt.Sprint(i))
				break
			}
		}
	}
	return "(" + strings.Join(at, " ") + ")", len(at) == len(names) && !hasTwice(names)
}

// modelCreate tells the table that x makes, where its name is free and there are so many tables.
func modelCreate(x api.Stmt, tables int) string {
	var names, primaries, keys []string
	for _, c := range x.Table.Cols {
		names = append(names, c.Name)
	}
	for i, k := range x.Table.Keys {
		at, right := modelNumbers(x.Table.Cols, x.KeyCols[i])
		if !right {
			return "class 3"
		}
		keys = append(keys, map[bool]string{true: "P", false: "U"}[k.Primary]+at)
		if k.Primary {
			if primaries != nil {
				return "class 3"
			}
			primaries = x.KeyCols[i]
		}
	}
	if hasTwice(names) {
		return "class 3"
	}
	if tables >= 6 || len(names) > 6 || len(keys) > 4 {
		return "class 2"
	}
	var parts []string
	for _, c := range x.Table.Cols {
		kind := []string{"BOOL", "INT", "TEXT"}[c.Type-1]
		parts = append(parts, c.Name+" "+kind+mark(c.NotNull || slices.Contains(primaries, c.Name), "!"))
	}
	return x.Table.Name + " " + strings.Join(append(parts, keys...), ", ")
}
