package tree_test

import (
	"errors"
	"fmt"
	"math/rand"
	"reflect"
	"strings"
	"testing"

	"consistory/api"
	"consistory/tree"
)

// classes: all that there are, of which an error has just one.
var classes = []api.Class{
	api.ErrSyntax, api.ErrLimit, api.ErrName, api.ErrType, api.ErrConstraint, api.ErrOverflow, api.ErrZero,
	api.ErrForm, api.ErrSum, api.ErrShort, api.ErrFile, api.ErrFull, api.ErrDown, api.ErrPlace,
	api.ErrNode, api.ErrLead, api.ErrWait, api.ErrBusy, api.ErrLine,
}

// isForm tells whether an error is of the class ErrForm and of no other.
func isForm(err error) bool {
	var c api.Class
	if !errors.As(err, &c) || c != api.ErrForm {
		return false
	}
	for _, other := range classes {
		if errors.Is(err, other) != (other == c) {
			return false
		}
	}
	return true
}

func number(n int64) api.Expr {
	return api.Expr{Kind: api.EValue, Value: api.Value{Kind: api.Int, Int: n}}
}

func text(s string) api.Expr {
	return api.Expr{Kind: api.EValue, Value: api.Value{Kind: api.Text, Text: s}}
}

func truth(n int64) api.Expr {
	return api.Expr{Kind: api.EValue, Value: api.Value{Kind: api.Bool, Int: n}}
}

func null() api.Expr { return api.Expr{Kind: api.EValue} }

func col(name string) api.Expr { return api.Expr{Kind: api.ECol, Name: name} }

func colOf(table, name string) api.Expr { return api.Expr{Kind: api.ECol, Table: table, Name: name} }

func node(kind, op int, args ...api.Expr) api.Expr {
	return api.Expr{Kind: kind, Op: op, Args: args}
}

func unary(op int, e api.Expr) api.Expr { return node(api.EUnary, op, e) }

func binary(op int, a, b api.Expr) api.Expr { return node(api.EBinary, op, a, b) }

func isIn(args ...api.Expr) api.Expr { return node(api.EIn, 0, args...) }

func caseOf(args ...api.Expr) api.Expr { return node(api.ECase, 0, args...) }

func agg(op int, args ...api.Expr) api.Expr { return node(api.EAgg, op, args...) }

// many makes a list of n elements.
func many[T any](n int, one T) []T {
	l := make([]T, n)
	for i := range l {
		l[i] = one
	}
	return l
}

// holds asks all about a statement that may be, or may not be, but for what is printed.
func holds(t *testing.T, label string, x api.Stmt, right bool) {
	t.Helper()
	s, err := tree.Print(x)
	if got := tree.Is(x); got != right {
		t.Errorf("%s: Is: %v of %+v", label, got, x)
	}
	if right && (s == "" || err != nil) {
		t.Errorf("%s: Print: %q, %v of %+v", label, s, err, x)
	}
	if !right && (s != "" || !isForm(err)) {
		t.Errorf("%s: Print: %q, %v of %+v", label, s, err, x)
	}
	if !right && tree.Depth(x) != 0 {
		t.Errorf("%s: Depth: %d of what may not be: %+v", label, tree.Depth(x), x)
	}
}

// holdsExpr is for expressions what holds is for statements.
func holdsExpr(t *testing.T, label string, e api.Expr, right bool) {
	t.Helper()
	s, err := tree.Expr(e)
	if got := tree.IsExpr(e); got != right {
		t.Errorf("%s: IsExpr: %v of %+v", label, got, e)
	}
	if right != (s != "" && err == nil) || !right != (s == "" && isForm(err)) {
		t.Errorf("%s: Expr: %q, %v of %+v", label, s, err, e)
	}
}

// printed tells what Print tells of what may be.
func printed(t *testing.T, x api.Stmt) string {
	t.Helper()
	s, err := tree.Print(x)
	if err != nil {
		t.Fatalf("Print: %v of %+v", err, x)
	}
	return s
}

// query is the shortest one about an expression.
func query(e api.Expr) api.Stmt {
	return api.Stmt{Kind: api.SSelect, Items: []api.Item{{Expr: e}}, From: []api.Source{{Name: "t"}}, Limit: -1}
}

// full tells one statement of each kind that has all that it may have, and lists of two.
func full() []api.Stmt {
	return []api.Stmt{
		{Kind: api.SCreate, Table: api.Table{Name: "t", Cols: []api.Column{{Name: "a", Type: api.Int, NotNull: true}, {Name: "b", Type: api.Text}}, Keys: []api.Key{{Unique: true, Primary: true}, {Unique: true}}}, KeyCols: [][]string{{"a", "b"}, {"b", "a"}}},
		{Kind: api.SIndex, Index: "i", Name: "t", Cols: []string{"a", "b"}, Unique: true},
		{Kind: api.SDrop, Name: "t"},
		{Kind: api.SUnindex, Index: "i"},
		{Kind: api.SInsert, Name: "t", Cols: []string{"a", "b"}, Rows: [][]api.Expr{{number(1), text("x")}, {unary(api.ONeg, number(2)), null()}}},
		{Kind: api.SUpdate, Name: "t", Sets: []api.Set{{Name: "a", Expr: number(1)}, {Name: "b", Expr: binary(api.OAdd, col("a"), number(1))}}, Where: colOf("t", "c")},
		{Kind: api.SDelete, Name: "t", Where: isIn(col("a"), number(1), number(2))},
		{Kind: api.SSelect, Distinct: true, Items: []api.Item{{Star: true}, {Expr: col("a"), Name: "x"}}, From: []api.Source{{Name: "t", Alias: "u"}, {Name: "v", Alias: "w", Left: true, On: binary(api.OEq, colOf("u", "a"), colOf("w", "a"))}}, Where: unary(api.ONot, col("a")), Group: []api.Expr{col("a"), col("b")}, Having: agg(api.ACount), Order: []api.Order{{Expr: col("a")}, {Expr: caseOf(col("b"), truth(1), truth(0)), Desc: true}}, Limit: 5},
	}
}

// deepCopy copies v with all that hangs on it; of lists the room behind them, too.
func deepCopy[T any](v T) T { return copyOf(reflect.ValueOf(v)).Interface().(T) }

func copyOf(v reflect.Value) reflect.Value {
	out := reflect.New(v.Type()).Elem()
	switch v.Kind() {
	case reflect.Slice:
		if v.IsNil() {
			return out
		}
		room := v.Slice(0, v.Cap())
		out.Set(reflect.MakeSlice(v.Type(), v.Cap(), v.Cap()))
		for i := range room.Len() {
			out.Index(i).Set(copyOf(room.Index(i)))
		}
		out.SetLen(v.Len())
	case reflect.Struct:
		for i := range v.NumField() {
			out.Field(i).Set(copyOf(v.Field(i)))
		}
	default:
		out.Set(v)
	}
	return out
}

// plain tells v with nil for each list without elements, so that reflect.DeepEqual holds two against each other.
func plain[T any](v T) T {
	v = deepCopy(v)
	flatten(reflect.ValueOf(&v).Elem())
	return v
}

func flatten(v reflect.Value) {
	switch v.Kind() {
	case reflect.Slice:
		if v.Len() == 0 {
			v.SetZero()
		}
		for i := range v.Len() {
			flatten(v.Index(i))
		}
	case reflect.Struct:
		for i := range v.NumField() {
			flatten(v.Field(i))
		}
	}
}

func equal[T any](a, b T) bool { return reflect.DeepEqual(plain(a), plain(b)) }

// spot: one place within a statement: how it is called from the statement on, and what is there.
type spot struct {
	path string
	v    reflect.Value
}

// spots tells all places of x: fields and elements, however deep.
func spots(x *api.Stmt) []spot {
	var out []spot
	var walk func(path string, v reflect.Value)
	walk = func(path string, v reflect.Value) {
		out = append(out, spot{path, v})
		switch v.Kind() {
		case reflect.Slice:
			for i := range v.Len() {
				walk(fmt.Sprintf("%s[%d]", path, i), v.Index(i))
			}
		case reflect.Struct:
			for i := range v.NumField() {
				walk(path+"."+v.Type().Field(i).Name, v.Field(i))
			}
		}
	}
	walk("", reflect.ValueOf(x).Elem())
	return out
}

func (s spot) isExpr() bool { return s.v.Type() == reflect.TypeFor[api.Expr]() }

// isTold: what resolve tells.
func (s spot) isTold() bool {
	return strings.HasSuffix(s.path, ".At") || strings.HasSuffix(s.path, ".Type") && !strings.Contains(s.path, ".Table.Cols[")
}

// chance tells a number from 0 to n - 1.
type chance func(n int) int

func byChance(seed int64) chance { return rand.New(rand.NewSource(seed)).Intn }
