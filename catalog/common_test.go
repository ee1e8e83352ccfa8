package catalog_test

import (
	"errors"
	"fmt"
	"math/rand"
	"reflect"
	"strings"
	"testing"

	"consistory/api"
	"consistory/catalog"
	"consistory/parse"
)

// classes: all that there are, of which an error has just one.
var classes = []api.Class{
	api.ErrSyntax, api.ErrLimit, api.ErrName, api.ErrType, api.ErrConstraint, api.ErrOverflow, api.ErrZero,
	api.ErrForm, api.ErrSum, api.ErrShort, api.ErrFile, api.ErrFull, api.ErrDown, api.ErrPlace,
	api.ErrNode, api.ErrLead, api.ErrWait, api.ErrBusy, api.ErrLine,
}

// class tells an error's, 0 of none, and that it has no other one.
func class(t *testing.T, err error) api.Class {
	t.Helper()
	if err == nil {
		return 0
	}
	var c api.Class
	if !errors.As(err, &c) {
		t.Fatalf("rule 5: an error without a class: %v", err)
	}
	for _, other := range classes {
		if errors.Is(err, other) != (other == c) {
			t.Fatalf("rule 5: %v: of class %d, and of %d", err, c, other)
		}
	}
	return c
}

func statement(t *testing.T, sql string) api.Stmt {
	t.Helper()
	x, err := parse.Parse(sql)
	if err != nil {
		t.Fatalf("%q: %v", sql, err)
	}
	return x
}

// apply tells what Apply answers, and that there is nothing beside an error and a schema beside none.
func apply(t *testing.T, s api.Schema, x api.Stmt) (api.Schema, api.Class) {
	t.Helper()
	out, err := catalog.Apply(s, x)
	if err != nil && len(out.Tables) != 0 {
		t.Errorf("rule 4: %s beside %v", show(out), err)
	}
	if err == nil && !catalog.Is(out) {
		t.Errorf("P11.5: %s", show(out))
	}
	return out, class(t, err)
}

// made tells the schema that statements make.
func made(t *testing.T, l ...string) api.Schema {
	t.Helper()
	var s api.Schema
	for _, sql := range l {
		var c api.Class
		if s, c = apply(t, s, statement(t, sql)); c != 0 {
			t.Fatalf("%q: class %d", sql, c)
		}
	}
	return s
}

// show writes all of a schema: `t a INT!, b TEXT, P(0), U(0 1), i(1), Uj(0); u x BOOL` (! of NotNull, P of Primary, U of Unique).
func show(s api.Schema) string {
	var tables []string
	for _, t := range s.Tables {
		var parts []string
		for _, c := range t.Cols {
			name, there := map[int]string{api.Bool: "BOOL", api.Int: "INT", api.Text: "TEXT"}[c.Type]
			if !there {
				name = fmt.Sprint(c.Type)
			}
			parts = append(parts, c.Name+" "+name+mark(c.NotNull, "!"))
		}
		for _, k := range t.Keys {
			kind := mark(k.Unique, "U")
			if k.Primary && k.Unique {
				kind = "P"
			} else if k.Primary {
				kind = "?"
			}
			parts = append(parts, kind+k.Name+strings.NewReplacer("[", "(", "]", ")").Replace(fmt.Sprint(k.Cols)))
		}
		tables = append(tables, t.Name+" "+strings.Join(parts, ", "))
	}
	return strings.Join(tables, "; ")
}

func mark(holds bool, s string) string {
	if holds {
		return s
	}
	return ""
}

// rich: a schema with all that there may be, most of it twice.
func rich(t *testing.T) api.Schema {
	return made(t,
		"CREATE TABLE t (a INT PRIMARY KEY, b TEXT UNIQUE, c BOOL NOT NULL)",
		"CREATE INDEX i ON t (c, a)",
		"CREATE UNIQUE INDEX j ON t (b, c)",
		"CREATE TABLE u (x INT, y TEXT, PRIMARY KEY (y, x), UNIQUE (x))",
		"CREATE INDEX k ON u (x)",
		"CREATE TABLE v (a BOOL)",
	)
}

// row writes n of s, each @ in it as the element's number, with commas between.
func row(n int, s string) string {
	l := make([]string, n)
	for i := range l {
		l[i] = strings.ReplaceAll(s, "@", fmt.Sprint(i))
	}
	return strings.Join(l, ", ")
}

// many makes a list of n elements.
func many[T any](n int, one T) []T {
	l := make([]T, n)
	for i := range l {
		l[i] = one
	}
	return l
}

// deepCopy copies v with all that hangs on it; of lists the room behind them, too.
func deepCopy[T any](v T) T { return copyOf(reflect.ValueOf(v)).Interface().(T) }

func copyOf(v reflect.Value) reflect.Value {
	out := reflect.New(v.Type()).Elem()
	switch v.Kind() {
	case reflect.Slice:
		if v.IsNil() {
			return out
		}
		room := v.Slice(0, v.Cap())
		out.Set(reflect.MakeSlice(v.Type(), v.Cap(), v.Cap()))
		for i := range room.Len() {
			out.Index(i).Set(copyOf(room.Index(i)))
		}
		out.SetLen(v.Len())
	case reflect.Struct:
		for i := range v.NumField() {
			out.Field(i).Set(copyOf(v.Field(i)))
		}
	default:
		out.Set(v)
	}
	return out
}

// spot: one place within something: how it is called from there on, and what is there.
type spot struct {
	path string
	v    reflect.Value
}

// spots tells all places of what x points to: fields and elements, however deep.
func spots(x any) []spot {
	var out []spot
	var walk func(path string, v reflect.Value)
	walk = func(path string, v reflect.Value) {
		out = append(out, spot{path, v})
		switch v.Kind() {
		case reflect.Slice:
			for i := range v.Len() {
				walk(fmt.Sprintf("%s[%d]", path, i), v.Index(i))
			}
		case reflect.Struct:
			for i := range v.NumField() {
				walk(path+"."+v.Type().Field(i).Name, v.Field(i))
			}
		}
	}
	walk("", reflect.ValueOf(x).Elem())
	return out
}

// chance tells a number from 0 to n - 1.
type chance func(n int) int

func byChance(seed int64) chance { return rand.New(rand.NewSource(seed)).Intn }

func pick[T any](c chance, l ...T) T { return l[c(len(l))] }
