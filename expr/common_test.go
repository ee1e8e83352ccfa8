package expr_test

import (
	"errors"
	"fmt"
	"math"
	"math/rand"
	"reflect"
	"slices"
	"strings"
	"testing"

	"consistory/api"
	"consistory/expr"
	"consistory/parse"
	"consistory/resolve"
	"consistory/value"
)

// classes: all that there are, of which an error has just one.
var classes = []api.Class{
	api.ErrSyntax, api.ErrLimit, api.ErrName, api.ErrType, api.ErrConstraint, api.ErrOverflow, api.ErrZero,
	api.ErrForm, api.ErrSum, api.ErrShort, api.ErrFile, api.ErrFull, api.ErrDown, api.ErrPlace,
	api.ErrNode, api.ErrLead, api.ErrWait, api.ErrBusy, api.ErrLine,
}

// class tells an error's, 0 of none, and that it has no other one.
func class(t *testing.T, err error) api.Class {
	t.Helper()
	if err == nil {
		return 0
	}
	var c api.Class
	if !errors.As(err, &c) {
		t.Fatalf("rule 5: an error without a class: %v", err)
	}
	for _, other := range classes {
		if errors.Is(err, other) != (other == c) {
			t.Fatalf("rule 5: %v: of class %d, and of %d", err, c, other)
		}
	}
	return c
}

// columns: two of each type.
var columns = []api.Column{
	{Name: "i", Type: api.Int}, {Name: "j", Type: api.Int},
	{Name: "s", Type: api.Text}, {Name: "r", Type: api.Text},
	{Name: "p", Type: api.Bool}, {Name: "q", Type: api.Bool},
}

var (
	null = api.Value{}
	no   = api.Value{Kind: api.Bool}
	yes  = api.Value{Kind: api.Bool, Int: 1}
)

func integer(n int64) api.Value { return api.Value{Kind: api.Int, Int: n} }

func textOf(s string) api.Value { return api.Value{Kind: api.Text, Text: s} }

// row: i 6, s x, p TRUE; of each type the other one is a NULL.
func row() []api.Value { return []api.Value{integer(6), null, textOf("x"), null, yes, null} }

// rowsOf: one for each number, with it as i; j counts the rows from 0 on.
func rowsOf(l ...api.Value) [][]api.Value {
	var rows [][]api.Value
	for n, v := range l {
		rows = append(rows, []api.Value{v, integer(int64(n)), null, null, null, null})
	}
	return rows
}

func statement(t *testing.T, sql string) api.Stmt {
	t.Helper()
	x, err := parse.Parse(sql)
	if err != nil {
		t.Fatalf("%q: %v", sql, err)
	}
	return x
}

// schema: a table of the columns.
func schema() api.Schema { return api.Schema{Tables: []api.Table{{Name: "t", Cols: columns}}} }

// read tells the expression that a text is, over the columns; an aggregate may be in it.
func read(t *testing.T, s string) api.Expr {
	t.Helper()
	return resolved(t, statement(t, "SELECT "+s+" FROM t").Items[0].Expr)
}

// resolved tells e as resolve has it.
func resolved(t *testing.T, e api.Expr) api.Expr {
	t.Helper()
	x := api.Stmt{Kind: api.SSelect, Items: []api.Item{{Expr: e}}, From: []api.Source{{Name: "t"}}, Limit: -1}
	if hasAggregate(e) {
		for _, c := range columns {
			x.Group = append(x.Group, api.Expr{Kind: api.ECol, Name: c.Name})
		}
	}
	x, err := resolve.Stmt(schema(), x)
	if err != nil {
		t.Fatalf("%+v: %v", e, err)
	}
	return x.Items[0].Expr
}

func hasAggregate(e api.Expr) bool {
	return e.Kind == api.EAgg || slices.ContainsFunc(e.Args, hasAggregate)
}

// say writes a value, or the class of an error, beside which there must be nothing.
func say(t *testing.T, v api.Value, err error) string {
	t.Helper()
	c := class(t, err)
	if c == 0 {
		return value.Print(v)
	}
	if v != null {
		t.Errorf("rule 4: %v beside %v", v, err)
	}
	if c != api.ErrForm && c != api.ErrOverflow && c != api.ErrZero {
		t.Errorf("class %d isn't one of the chapter's", c)
	}
	return fmt.Sprint("class ", int(c))
}

func eval(t *testing.T, e api.Expr, row []api.Value) string {
	t.Helper()
	v, err := expr.Eval(e, row)
	return say(t, v, err)
}

func group(t *testing.T, e api.Expr, rows [][]api.Value) string {
	t.Helper()
	v, err := expr.Group(e, rows)
	return say(t, v, err)
}

// truth tells what Truth answers, as `true`, `false` or a class.
func truth(t *testing.T, e api.Expr, row []api.Value) string {
	t.Helper()
	ok, err := expr.Truth(e, row)
	c := class(t, err)
	if c == 0 {
		return fmt.Sprint(ok)
	}
	if ok {
		t.Errorf("rule 4: true beside %v", err)
	}
	return fmt.Sprint("class ", int(c))
}

func constant(v api.Value) api.Expr {
	return api.Expr{Kind: api.EValue, Value: v, Type: v.Kind}
}

// at: the column at a place.
func at(n int) api.Expr {
	return api.Expr{Kind: api.ECol, Name: columns[n].Name, At: n, Type: columns[n].Type}
}

func node(kind, op int, args ...api.Expr) api.Expr {
	return api.Expr{Kind: kind, Op: op, Args: args}
}

// many makes a list of n elements.
func many[T any](n int, one T) []T {
	l := make([]T, n)
	for i := range l {
		l[i] = one
	}
	return l
}

// samples: values of each type, the ends of what may be among them.
func samples(kind int) []api.Value {
	switch kind {
	case api.Bool:
		return []api.Value{no, yes}
	case api.Int:
		return []api.Value{integer(math.MinInt64), integer(-7), integer(-1), integer(0), integer(1), integer(2), integer(math.MaxInt64)}
	}
	return []api.Value{textOf(""), textOf("a"), textOf("a\xff"), textOf("b"), textOf(strings.Repeat("b", api.MaxText-1)), textOf(strings.Repeat("b", api.MaxText))}
}

// wrong: values that may not be.
func wrong() []api.Value {
	return []api.Value{{Kind: 4}, {Kind: -1}, {Int: 1}, {Text: "x"}, {Kind: api.Bool, Int: 2}, {Kind: api.Int, Text: "x"}, textOf("\x00"), textOf(strings.Repeat("z", api.MaxText+1))}
}

// deepCopy copies v with all that hangs on it; of lists the room behind them, too.
func deepCopy[T any](v T) T { return copyOf(reflect.ValueOf(v)).Interface().(T) }

func copyOf(v reflect.Value) reflect.Value {
	out := reflect.New(v.Type()).Elem()
	switch v.Kind() {
	case reflect.Slice:
		if v.IsNil() {
			return out
		}
		room := v.Slice(0, v.Cap())
		out.Set(reflect.MakeSlice(v.Type(), v.Cap(), v.Cap()))
		for i := range room.Len() {
			out.Index(i).Set(copyOf(room.Index(i)))
		}
		out.SetLen(v.Len())
	case reflect.Struct:
		for i := range v.NumField() {
			out.Field(i).Set(copyOf(v.Field(i)))
		}
	default:
		out.Set(v)
	}
	return out
}

// spots tells all places of what x points to: fields and elements, however deep.
func spots(x any) []reflect.Value {
	var out []reflect.Value
	var walk func(v reflect.Value)
	walk = func(v reflect.Value) {
		out = append(out, v)
		switch v.Kind() {
		case reflect.Slice:
			for i := range v.Len() {
				walk(v.Index(i))
			}
		case reflect.Struct:
			for i := range v.NumField() {
				walk(v.Field(i))
			}
		}
	}
	walk(reflect.ValueOf(x).Elem())
	return out
}

// chance tells a number from 0 to n - 1.
type chance func(n int) int

func byChance(seed int64) chance { return rand.New(rand.NewSource(seed)).Intn }

func pick[T any](c chance, l ...T) T { return l[c(len(l))] }
