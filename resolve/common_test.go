package resolve_test

import (
	"errors"
	"fmt"
	"math/rand"
	"reflect"
	"strings"
	"testing"

	"consistory/api"
	"consistory/catalog"
	"consistory/parse"
	"consistory/resolve"
	"consistory/value"
)

// classes: all that there are, of which an error has just one.
var classes = []api.Class{
	api.ErrSyntax, api.ErrLimit, api.ErrName, api.ErrType, api.ErrConstraint, api.ErrOverflow, api.ErrZero,
	api.ErrForm, api.ErrSum, api.ErrShort, api.ErrFile, api.ErrFull, api.ErrDown, api.ErrPlace,
	api.ErrNode, api.ErrLead, api.ErrWait, api.ErrBusy, api.ErrLine,
}

// class tells an error's, 0 of none, and that it has no other one.
func class(t *testing.T, err error) api.Class {
	t.Helper()
	if err == nil {
		return 0
	}
	var c api.Class
	if !errors.As(err, &c) {
		t.Fatalf("rule 5: an error without a class: %v", err)
	}
	for _, other := range classes {
		if errors.Is(err, other) != (other == c) {
			t.Fatalf("rule 5: %v: of class %d, and of %d", err, c, other)
		}
	}
	return c
}

func statement(t *testing.T, sql string) api.Stmt {
	t.Helper()
	x, err := parse.Parse(sql)
	if err != nil {
		t.Fatalf("%q: %v", sql, err)
	}
	return x
}

// schema: tables that have columns of one name, tables that have none, one that has as many as may be.
func schema(t *testing.T) api.Schema {
	t.Helper()
	var s api.Schema
	for _, sql := range []string{
		"CREATE TABLE t (a INT PRIMARY KEY, b TEXT, c BOOL)",
		"CREATE TABLE u (a INT, x TEXT, c TEXT)",
		"CREATE TABLE v (y BOOL, z INT)",
		"CREATE TABLE w (p INT, q INT, r INT, s INT, t INT, u INT)",
		"CREATE INDEX i ON t (b)",
	} {
		var err error
		if s, err = catalog.Apply(s, statement(t, sql)); err != nil {
			t.Fatalf("%q: %v", sql, err)
		}
	}
	return s
}

// stmt tells what Stmt answers, and that there is nothing beside an error.
func stmt(t *testing.T, s api.Schema, x api.Stmt) (api.Stmt, api.Class) {
	t.Helper()
	out, err := resolve.Stmt(s, x)
	if err != nil && !reflect.DeepEqual(out, api.Stmt{}) {
		t.Errorf("rule 4: %+v beside %v", out, err)
	}
	return out, class(t, err)
}

// expr tells what Expr answers, and that there is nothing beside an error.
func expr(t *testing.T, cols []api.Column, e api.Expr) (api.Expr, api.Class) {
	t.Helper()
	out, err := resolve.Expr(cols, e)
	if err != nil && !reflect.DeepEqual(out, api.Expr{}) {
		t.Errorf("rule 4: %+v beside %v", out, err)
	}
	return out, class(t, err)
}

// read tells the expression that a text is.
func read(t *testing.T, s string) api.Expr {
	t.Helper()
	return statement(t, "SELECT "+s+" FROM t").Items[0].Expr
}

// wantClasses: each text as a statement on the schema is of that class.
func wantClasses(t *testing.T, label string, want api.Class, l ...string) {
	t.Helper()
	s := schema(t)
	for _, sql := range l {
		if _, got := stmt(t, s, statement(t, sql)); got != want {
			t.Errorf("%s: %s: class %d, want %d", label, sql, got, want)
		}
	}
}

var signs = [...]string{"", "-", "NOT", "NULL?", "THERE?", "=", "<>", "<", "<=", ">", ">=", "+", "-", "*", "/", "%", "||", "AND", "OR", "COUNT", "SUM", "MIN", "MAX"}

// show writes what is told of an expression: `(= t.a@0:I NULL:0):B`.
func show(e api.Expr) string {
	kind := ":" + string("0BIT"[e.Type])
	switch e.Kind {
	case 0:
		return "none"
	case api.EValue:
		return value.Print(e.Value) + kind
	case api.ECol:
		if e.Table != "" {
			e.Name = e.Table + "." + e.Name
		}
		return fmt.Sprint(e.Name, "@", e.At, kind)
	case api.EIn:
		return "(IN" + showAll(" ", e.Args) + ")" + kind
	case api.ECase:
		return "(CASE" + showAll(" ", e.Args) + ")" + kind
	}
	return "(" + signs[e.Op] + showAll(" ", e.Args) + ")" + kind
}

func showAll(ahead string, l []api.Expr) string {
	var b strings.Builder
	for _, e := range l {
		b.WriteString(ahead + show(e))
	}
	return b.String()
}

// showStmt writes all expressions of x, each with the clause that it stands in.
func showStmt(x api.Stmt) string {
	var l []string
	if len(x.Cols) > 0 {
		l = append(l, "("+strings.Join(x.Cols, ", ")+")")
	}
	for _, row := range x.Rows {
		l = append(l, "ROW"+showAll(" ", row))
	}
	for _, set := range x.Sets {
		l = append(l, "SET "+set.Name+" "+show(set.Expr))
	}
	for _, i := range x.Items {
		one := show(i.Expr)
		if i.Star {
			one = "*"
		}
		if i.Name != "" {
			one += " AS " + i.Name
		}
		l = append(l, one)
	}
	for _, s := range x.From {
		if s.On.Kind != 0 {
			l = append(l, "ON "+show(s.On))
		}
	}
	if x.Where.Kind != 0 {
		l = append(l, "WHERE "+show(x.Where))
	}
	if len(x.Group) > 0 {
		l = append(l, "GROUP"+showAll(" ", x.Group))
	}
	if x.Having.Kind != 0 {
		l = append(l, "HAVING "+show(x.Having))
	}
	for _, o := range x.Order {
		l = append(l, "BY "+show(o.Expr))
	}
	return strings.Join(l, "; ")
}

func number(n int64) api.Expr {
	return api.Expr{Kind: api.EValue, Value: api.Value{Kind: api.Int, Int: n}}
}

func text(s string) api.Expr {
	return api.Expr{Kind: api.EValue, Value: api.Value{Kind: api.Text, Text: s}}
}

func truth(n int64) api.Expr {
	return api.Expr{Kind: api.EValue, Value: api.Value{Kind: api.Bool, Int: n}}
}

func null() api.Expr { return api.Expr{Kind: api.EValue} }

func col(name string) api.Expr { return api.Expr{Kind: api.ECol, Name: name} }

func node(kind, op int, args ...api.Expr) api.Expr {
	return api.Expr{Kind: kind, Op: op, Args: args}
}

// many makes a list of n elements.
func many[T any](n int, one T) []T {
	l := make([]T, n)
	for i := range l {
		l[i] = one
	}
	return l
}

// row writes n of s, with commas between.
func row(n int, s string) string { return strings.Join(many(n, s), ", ") }

// deepCopy copies v with all that hangs on it; of lists the room behind them, too.
func deepCopy[T any](v T) T { return copyOf(reflect.ValueOf(v)).Interface().(T) }

func copyOf(v reflect.Value) reflect.Value {
	out := reflect.New(v.Type()).Elem()
	switch v.Kind() {
	case reflect.Slice:
		if v.IsNil() {
			return out
		}
		room := v.Slice(0, v.Cap())
		out.Set(reflect.MakeSlice(v.Type(), v.Cap(), v.Cap()))
		for i := range room.Len() {
			out.Index(i).Set(copyOf(room.Index(i)))
		}
		out.SetLen(v.Len())
	case reflect.Struct:
		for i := range v.NumField() {
			out.Field(i).Set(copyOf(v.Field(i)))
		}
	default:
		out.Set(v)
	}
	return out
}

// equal: whether all is alike; nil and empty are one.
func equal[T any](a, b T) bool {
	a, b = deepCopy(a), deepCopy(b)
	for _, s := range append(spots(&a), spots(&b)...) {
		if s.v.Kind() == reflect.Slice && s.v.Len() == 0 {
			s.v.SetZero()
		}
	}
	return reflect.DeepEqual(a, b)
}

// spot: one place within something: how it is called from there on, and what is there.
type spot struct {
	path string
	v    reflect.Value
}

// spots tells all places of what x points to: fields and elements, however deep.
func spots(x any) []spot {
	var out []spot
	var walk func(path string, v reflect.Value)
	walk = func(path string, v reflect.Value) {
		out = append(out, spot{path, v})
		switch v.Kind() {
		case reflect.Slice:
			for i := range v.Len() {
				walk(fmt.Sprintf("%s[%d]", path, i), v.Index(i))
			}
		case reflect.Struct:
			for i := range v.NumField() {
				walk(path+"."+v.Type().Field(i).Name, v.Field(i))
			}
		}
	}
	walk("", reflect.ValueOf(x).Elem())
	return out
}

// chance tells a number from 0 to n - 1.
type chance func(n int) int

func byChance(seed int64) chance { return rand.New(rand.NewSource(seed)).Intn }

func pick[T any](c chance, l ...T) T { return l[c(len(l))] }
