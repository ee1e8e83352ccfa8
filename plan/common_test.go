package plan_test

import (
	"errors"
	"fmt"
	"math/rand"
	"reflect"
	"slices"
	"strings"
	"testing"

	"consistory/api"
	"consistory/catalog"
	"consistory/parse"
	"consistory/plan"
	"consistory/resolve"
	"consistory/table"
	"consistory/value"
)

// classes: all that there are, of which an error has just one.
var classes = []api.Class{
	api.ErrSyntax, api.ErrLimit, api.ErrName, api.ErrType, api.ErrConstraint, api.ErrOverflow, api.ErrZero,
	api.ErrForm, api.ErrSum, api.ErrShort, api.ErrFile, api.ErrFull, api.ErrDown, api.ErrPlace,
	api.ErrNode, api.ErrLead, api.ErrWait, api.ErrBusy, api.ErrLine,
}

// class tells an error's, 0 of none, and that it has no other one.
func class(t *testing.T, err error) api.Class {
	t.Helper()
	if err == nil {
		return 0
	}
	var c api.Class
	if !errors.As(err, &c) {
		t.Fatalf("rule 5: an error without a class: %v", err)
	}
	for _, other := range classes {
		if errors.Is(err, other) != (other == c) {
			t.Fatalf("rule 5: %v: of class %d, and of %d", err, c, other)
		}
	}
	return c
}

func statement(t *testing.T, sql string) api.Stmt {
	t.Helper()
	x, err := parse.Parse(sql)
	if err != nil {
		t.Fatalf("%q: %v", sql, err)
	}
	return x
}

func defined(t *testing.T, l ...string) api.Schema {
	t.Helper()
	var s api.Schema
	for _, sql := range l {
		var err error
		if s, err = catalog.Apply(s, statement(t, sql)); err != nil {
			t.Fatalf("%q: %v", sql, err)
		}
	}
	return s
}

// schema: of t columns of each type, of which those of the second line may be NULL; keys of one column and of more, and of the same column.
func schema(t *testing.T) api.Schema {
	t.Helper()
	return defined(t,
		"CREATE TABLE t (a INT NOT NULL, c TEXT NOT NULL, p BOOL NOT NULL,"+
			"b INT, d TEXT, q BOOL, UNIQUE (a, b))",
		"CREATE INDEX i ON t (a)",
		"CREATE INDEX j ON t (b)",
		"CREATE UNIQUE INDEX k ON t (c, a, b)",
		"CREATE TABLE u (x INT NOT NULL, y INT, b INT)",
		"CREATE INDEX l ON u (x)",
		"CREATE TABLE v (z TEXT NOT NULL, w TEXT, r BOOL NOT NULL, s BOOL)",
		"CREATE INDEX m ON v (z)",
		"CREATE UNIQUE INDEX n ON v (w)",
		"CREATE INDEX o ON v (r)",
		"CREATE INDEX h ON v (s, z)",
		"CREATE TABLE e (a INT NOT NULL, b INT)",
	)
}

// all tells what All answers, and that it is what may be: P15.1.
func all(t *testing.T, s api.Schema, x api.Stmt) ([]api.Way, api.Class) {
	t.Helper()
	l, err := plan.All(s, x)
	if err != nil {
		if len(l) > 0 {
			t.Errorf("rule 4: %v beside %v", l, err)
		}
		return nil, class(t, err)
	}
	if len(l) < 1 || len(l) > 20 {
		t.Fatalf("P15.1: %d ways", len(l))
	}
	if show(l[0]) != "all" {
		t.Fatalf("P15.1: the first one is %s", show(l[0]))
	}
	n := first(s, x)
	store := empty(t, s)
	for i, w := range l {
		if slices.ContainsFunc(l[:i], func(o api.Way) bool { return equal(o, w) }) {
			t.Errorf("P15.1: %s is there twice", show(w))
		}
		if _, err := store.Rows(n, w); err != nil {
			t.Errorf("P15.1: table.Rows doesn't take %s: %v", show(w), err)
		}
		if !w.HasLo && w.Lo != null || !w.HasHi && w.Hi != null {
			t.Errorf("rule 4: %+v", w)
		}
	}
	return l, 0
}

// first tells the number of the first table of x.
func first(s api.Schema, x api.Stmt) int {
	if x.Kind == api.SSelect {
		return catalog.Find(s, x.From[0].Name)
	}
	return catalog.Find(s, x.Name)
}

func empty(t *testing.T, s api.Schema) *table.Store {
	t.Helper()
	store, err := table.Of(s, api.Data{Rows: make([][]api.Row, len(s.Tables)), Next: many(len(s.Tables), uint64(1))})
	if err != nil {
		t.Fatal(err)
	}
	return store
}

// told tells the ways of a text as a statement on the schema.
func told(t *testing.T, sql string) []string {
	t.Helper()
	l, c := all(t, schema(t), statement(t, sql))
	if c != 0 {
		t.Fatalf("%s: class %d", sql, c)
	}
	var out []string
	for _, w := range l {
		out = append(out, show(w))
	}
	return out
}

// show writes a way: `all`, `0 = 5 = 'x' >= 1 <= 7`.
func show(w api.Way) string {
	l := []string{fmt.Sprint(w.Key)}
	for _, v := range w.Eq {
		l = append(l, "= "+value.Print(v))
	}
	if w.HasLo {
		l = append(l, ">= "+value.Print(w.Lo))
	}
	if w.HasHi {
		l = append(l, "<= "+value.Print(w.Hi))
	}
	if w.Key == -1 && len(l) == 1 {
		return "all"
	}
	return strings.Join(l, " ")
}

// resolved tells x as resolve has it.
func resolved(t *testing.T, s api.Schema, x api.Stmt) api.Stmt {
	t.Helper()
	x, err := resolve.Stmt(s, x)
	if err != nil {
		t.Fatal(err)
	}
	return x
}

var (
	null = api.Value{}
	no   = api.Value{Kind: api.Bool}
	yes  = api.Value{Kind: api.Bool, Int: 1}
)

func integer(n int64) api.Value { return api.Value{Kind: api.Int, Int: n} }

func textOf(s string) api.Value { return api.Value{Kind: api.Text, Text: s} }

func constant(v api.Value) api.Expr { return api.Expr{Kind: api.EValue, Value: v} }

func col(name string) api.Expr { return api.Expr{Kind: api.ECol, Name: name} }

func node(kind, op int, args ...api.Expr) api.Expr {
	return api.Expr{Kind: kind, Op: op, Args: args}
}

// many makes a list of n elements.
func many[T any](n int, one T) []T {
	l := make([]T, n)
	for i := range l {
		l[i] = one
	}
	return l
}

// deepCopy copies v with all that hangs on it; of lists the room behind them, too.
func deepCopy[T any](v T) T { return copyOf(reflect.ValueOf(v)).Interface().(T) }

func copyOf(v reflect.Value) reflect.Value {
	out := reflect.New(v.Type()).Elem()
	switch v.Kind() {
	case reflect.Slice:
		if v.IsNil() {
			return out
		}
		room := v.Slice(0, v.Cap())
		out.Set(reflect.MakeSlice(v.Type(), v.Cap(), v.Cap()))
		for i := range room.Len() {
			out.Index(i).Set(copyOf(room.Index(i)))
		}
		out.SetLen(v.Len())
	case reflect.Struct:
		for i := range v.NumField() {
			out.Field(i).Set(copyOf(v.Field(i)))
		}
	default:
		out.Set(v)
	}
	return out
}

// equal: whether all is alike; nil and empty are one.
func equal[T any](a, b T) bool {
	a, b = deepCopy(a), deepCopy(b)
	for _, v := range append(spots(&a), spots(&b)...) {
		if v.Kind() == reflect.Slice && v.Len() == 0 {
			v.SetZero()
		}
	}
	return reflect.DeepEqual(a, b)
}

// spots tells all places of what x points to: fields and elements, however deep.
func spots(x any) []reflect.Value {
	var out []reflect.Value
	var walk func(v reflect.Value)
	walk = func(v reflect.Value) {
		out = append(out, v)
		switch v.Kind() {
		case reflect.Slice:
			for i := range v.Len() {
				walk(v.Index(i))
			}
		case reflect.Struct:
			for i := range v.NumField() {
				walk(v.Field(i))
			}
		}
	}
	walk(reflect.ValueOf(x).Elem())
	return out
}

// chance tells a number from 0 to n - 1.
type chance func(n int) int

func byChance(seed int64) chance { return rand.New(rand.NewSource(seed)).Intn }

func pick[T any](c chance, l ...T) T { return l[c(len(l))] }
