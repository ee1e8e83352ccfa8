package catalog_test

import (
	"math"
	"reflect"
	"strings"
	"testing"

	"consistory/api"
	"consistory/catalog"
	"consistory/parse"
	"consistory/tree"
)

// check holds Apply against the model, and tells the schema that s has become.
func check(t *testing.T, s api.Schema, x api.Stmt) api.Schema {
	t.Helper()
	if got, want := catalog.Is(s), modelIs(s); got != want {
		t.Fatalf("P11.1: %v of %s", got, show(s))
	}
	want := modelApply(s, x)
	out, c := apply(t, s, x)
	got := show(out)
	if c != 0 {
		got, out = c.Error(), s
	}
	if got != want {
		printed, _ := tree.Print(x)
		t.Fatalf("P11.3: %s (%+v) of %s: %s, want %s", printed, x, show(s), got, want)
	}
	checkFinds(t, out)
	return out
}

// checkFinds: each table and each key of a schema is found where it is.
func checkFinds(t *testing.T, s api.Schema) {
	t.Helper()
	if !catalog.Is(s) {
		return
	}
	for i, table := range s.Tables {
		if catalog.Find(s, table.Name) != i {
			t.Fatalf("P11.2: %s in %s", table.Name, show(s))
		}
		if a, b := catalog.FindKey(s, table.Name); a != -1 || b != -1 {
			t.Fatalf("P11.2: key %s in %s", table.Name, show(s))
		}
		for k, key := range table.Keys {
			if a, b := catalog.FindKey(s, key.Name); key.Name != "" && (a != i || b != k || catalog.Find(s, key.Name) != -1) {
				t.Fatalf("P11.2: key %s in %s", key.Name, show(s))
			}
		}
	}
}

func some[T any](c chance, least, most int, one func() T) []T {
	l := make([]T, least+c(most-least+1))
	for i := range l {
		l[i] = one()
	}
	return l
}

func (c chance) object() string {
	return pick(c, "t", "u", "v", "w", "x", "y", "z", "i", "j", "k", "l", "a", "b")
}

func (c chance) column() string {
	return pick(c, "a", "b", "c", "d", "e", "f", "g", "h", "t", "i", "m", "n", "o", "p", "q", "r")
}

// ofTable tells names of columns that are there, mostly.
func (c chance) ofTable(cols []api.Column, most int) []string {
	return some(c, 1, most, func() string {
		if len(cols) == 0 || c(20) == 0 {
			return c.column()
		}
		return cols[c(len(cols))].Name
	})
}

func (c chance) create() api.Stmt {
	x := api.Stmt{Kind: api.SCreate, Table: api.Table{Name: c.object()}}
	most := pick(c, 2, 3, 4, api.MaxCols+1, api.MaxItems)
	x.Table.Cols = some(c, 1, most, func() api.Column {
		return api.Column{Name: c.column(), Type: 1 + c(3), NotNull: c(2) == 0}
	})
	if c(3) > 0 { // seldom all unlike by chance
		for i := range x.Table.Cols {
			x.Table.Cols[i].Name = string(rune('a' + i))
		}
	}
	x.Table.Keys = some(c, 0, pick(c, 1, 2, api.MaxKeys+1, api.MaxItems), func() api.Key {
		return api.Key{Unique: true, Primary: c(5) == 0}
	})
	for range x.Table.Keys {
		x.KeyCols = append(x.KeyCols, c.ofTable(x.Table.Cols, pick(c, 1, 2, 3)))
	}
	return x
}

// definition makes a statement that may be, about what is there, mostly.
func (c chance) definition(s api.Schema) api.Stmt {
	table := api.Table{Name: c.object()}
	if len(s.Tables) > 0 && c(5) > 0 {
		table = s.Tables[c(len(s.Tables))]
	}
	switch c(12) {
	case 0:
		return api.Stmt{Kind: api.SDrop, Name: table.Name}
	case 1, 2:
		return api.Stmt{Kind: api.SUnindex, Index: c.object()}
	case 3, 4, 5, 6, 7:
		return api.Stmt{Kind: api.SIndex, Index: c.object(), Name: table.Name, Cols: c.ofTable(table.Cols, 2), Unique: c(2) == 0}
	}
	return c.create()
}

// spoil changes one place of what x points to, so that it may not be any more, or may be all the same.
func (c chance) spoil(x any) {
	v := pick(c, spots(x)...).v
	switch v.Kind() {
	case reflect.Int, reflect.Int64:
		v.SetInt(pick(c, 0, 1, -1, v.Int()+1, v.Int()-1, 2, 3, 5, math.MaxInt64, math.MinInt64))
	case reflect.Bool:
		v.SetBool(!v.Bool())
	case reflect.String:
		v.SetString(pick(c, "", "a", "b", "t", "i", "A", "select", "9", strings.Repeat("m", api.MaxName), strings.Repeat("m", api.MaxName+1)))
	case reflect.Slice:
		if n := v.Len(); n > 0 && c(3) == 0 {
			v.Set(v.Slice(0, n-1))
		} else if n > 0 {
			for k := c(6); k >= 0; k-- {
				v.Set(reflect.Append(v, v.Index(c(n))))
			}
		} else {
			v.Set(reflect.Append(v, reflect.New(v.Type().Elem()).Elem()))
		}
	}
}

// TestByChance: statements one behind the other, as the model has them; now and then what is handed in is spoilt.
func TestByChance(t *testing.T) {
	tried := map[[2]int]int{} // by the statement's kind, and the class that is told
	for seed := range int64(400) {
		c := byChance(seed)
		var s api.Schema
		for range 60 {
			x := c.definition(s)
			_, told := apply(t, s, x)
			tried[[2]int{x.Kind, int(told)}]++
			other, wrong := deepCopy(s), deepCopy(x)
			c.spoil(&other)
			c.spoil(&wrong)
			check(t, other, x)
			check(t, s, wrong)
			if same := show(s) == show(other); catalog.Same(s, other) != same {
				t.Fatalf("P11.4: %s and %s: %v", show(s), show(other), !same)
			}
			s = check(t, s, x)
		}
	}
	for _, want := range [][2]int{{api.SCreate, 0}, {api.SCreate, 2}, {api.SCreate, 3}, {api.SIndex, 0}, {api.SIndex, 2}, {api.SIndex, 3}, {api.SDrop, 0}, {api.SDrop, 3}, {api.SUnindex, 0}, {api.SUnindex, 3}} {
		if tried[want] < 100 {
			t.Errorf("too little is tried: %v: %d", want, tried[want])
		}
	}
}

// FuzzApply: statements with ; between, each of what the ones ahead of it made.
func FuzzApply(f *testing.F) {
	f.Add("CREATE TABLE t (a INT PRIMARY KEY, b TEXT UNIQUE, c BOOL); CREATE INDEX i ON t (c, a); DROP INDEX i; DROP TABLE t")
	for _, sql := range definitions {
		f.Add("CREATE TABLE t (a INT, b INT, UNIQUE (b, a)); CREATE TABLE u (x INT, y INT); " + sql)
	}
	f.Fuzz(func(t *testing.T, script string) {
		var s api.Schema
		for _, sql := range strings.Split(script, ";") {
			if strings.Contains(strings.ToUpper(sql), "BETWEEN") { // they double what is told, and define nothing
				continue
			}
			if x, err := parse.Parse(sql); err == nil {
				s = check(t, s, x)
			}
		}
	})
}
