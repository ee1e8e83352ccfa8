package exec_test

import (
	"errors"
	"fmt"
	"math/rand"
	"reflect"
	"slices"
	"strings"
	"testing"

	"consistory/api"
	"consistory/catalog"
	"consistory/exec"
	"consistory/expr"
	"consistory/parse"
	"consistory/resolve"
	"consistory/table"
	"consistory/value"
)

// classes: all that there are, of which an error has just one.
var classes = []api.Class{
	api.ErrSyntax, api.ErrLimit, api.ErrName, api.ErrType, api.ErrConstraint, api.ErrOverflow, api.ErrZero,
	api.ErrForm, api.ErrSum, api.ErrShort, api.ErrFile, api.ErrFull, api.ErrDown, api.ErrPlace,
	api.ErrNode, api.ErrLead, api.ErrWait, api.ErrBusy, api.ErrLine,
}

// class tells an error's, 0 of none, and that it has no other one.
func class(t *testing.T, err error) api.Class {
	t.Helper()
	if err == nil {
		return 0
	}
	var c api.Class
	if !errors.As(err, &c) {
		t.Fatalf("rule 5: an error without a class: %v", err)
	}
	for _, other := range classes {
		if errors.Is(err, other) != (other == c) {
			t.Fatalf("rule 5: %v: of class %d, and of %d", err, c, other)
		}
	}
	return c
}

func statement(t *testing.T, sql string) api.Stmt {
	t.Helper()
	x, err := parse.Parse(sql)
	if err != nil {
		t.Fatalf("%q: %v", sql, err)
	}
	return x
}

// filled tells a store of what statements define, and of the rows that they insert.
func filled(t *testing.T, l ...string) *table.Store {
	t.Helper()
	store := table.New()
	for _, sql := range l {
		x := statement(t, sql)
		if err := do(store, x); err != nil {
			t.Fatalf("%q: %v", sql, err)
		}
	}
	return store
}

func do(store *table.Store, x api.Stmt) error {
	if x.Kind != api.SInsert {
		return store.Define(x)
	}
	x, err := resolve.Stmt(store.Schema(), x)
	if err != nil {
		return err
	}
	var made [][]api.Value
	for _, l := range x.Rows {
		var row []api.Value
		for _, e := range l {
			v, err := expr.Eval(e, nil)
			if err != nil {
				return err
			}
			row = append(row, v)
		}
		made = append(made, row)
	}
	return store.Write(catalog.Find(store.Schema(), x.Name), nil, nil, made)
}

// store: t with a key, an index and NULLs; u with some of t's numbers, one of them twice; e without rows; one with numbers at which sums go wrong.
func store(t *testing.T) *table.Store {
	t.Helper()
	return filled(t,
		"CREATE TABLE t (a INT PRIMARY KEY, b INT, s TEXT, p BOOL)",
		"CREATE INDEX i ON t (b, s)",
		"CREATE TABLE u (k INT, w INT)",
		"CREATE INDEX j ON u (k)",
		"CREATE TABLE e (z INT, y TEXT)",
		"CREATE TABLE g (n INT, m INT)",
		"CREATE UNIQUE INDEX l ON g (n)",
		"INSERT INTO t VALUES (1, 5, 'x', TRUE), (2, 0, 'y', FALSE), (3, NULL, 'x', NULL), (4, 5, NULL, TRUE)",
		"INSERT INTO u VALUES (1, 10), (1, 20), (7, 0), (NULL, 1)",
		"INSERT INTO g VALUES (1, 1), (0, 0), (9223372036854775807, 1), (-9223372036854775807 - 1, 0), (2, NULL)",
	)
}

// query tells what Query answers, and that there is nothing beside an error.
func query(t *testing.T, store *table.Store, x api.Stmt) (api.Answer, api.Class) {
	t.Helper()
	a, err := exec.Query(store, x)
	return answered(t, a, err)
}

// by tells what By answers, likewise.
func by(t *testing.T, store *table.Store, x api.Stmt, w api.Way) (api.Answer, api.Class) {
	t.Helper()
	a, err := exec.By(store, x, w)
	return answered(t, a, err)
}

func answered(t *testing.T, a api.Answer, err error) (api.Answer, api.Class) {
	t.Helper()
	if err != nil && !reflect.DeepEqual(a, api.Answer{}) {
		t.Errorf("rule 4: %+v beside %v", a, err)
	}
	return a, class(t, err)
}

// joined tells what Joined answers, likewise.
func joined(t *testing.T, store *table.Store, x api.Stmt) ([][]api.Value, api.Class) {
	t.Helper()
	l, err := exec.Joined(store, x)
	if err != nil && len(l) > 0 {
		t.Errorf("rule 4: %v beside %v", l, err)
	}
	return l, class(t, err)
}

// say writes an answer: `a b: 1 'x', 2 NULL`, or `class 7`; its rows sorted, if they are in any order.
func say(a api.Answer, c api.Class, inOrder bool) string {
	if c != 0 {
		return fmt.Sprint("class ", int(c))
	}
	return strings.Join(a.Cols, " ") + ": " + sayRows(a.Rows, inOrder)
}

func sayRows(rows [][]api.Value, inOrder bool) string {
	var out []string
	for _, row := range rows {
		var l []string
		for _, v := range row {
			l = append(l, value.Print(v))
		}
		out = append(out, strings.Join(l, " "))
	}
	if !inOrder {
		slices.Sort(out)
	}
	return strings.Join(out, ", ")
}

// told tells what a text as a question to the store is answered.
func told(t *testing.T, sql string) string {
	t.Helper()
	x := statement(t, sql)
	a, c := query(t, store(t), x)
	return say(a, c, len(x.Order) > 0)
}

// questions: texts, and what they are answered.
type questions []struct{ sql, want string }

func (l questions) ask(t *testing.T, label string) {
	t.Helper()
	for _, q := range l {
		if got := told(t, q.sql); got != q.want {
			t.Errorf("%s: %s: %s, want %s", label, q.sql, got, q.want)
		}
		hold(t, store(t), statement(t, q.sql))
	}
}

// way writes one: `all`, `0 = 5 = 'x' >= 1 <= 7`.
func way(w api.Way) string {
	if w.Key == -1 && len(w.Eq) == 0 && !w.HasLo && !w.HasHi {
		return "all"
	}
	l := []string{fmt.Sprint(w.Key)}
	for _, v := range w.Eq {
		l = append(l, "= "+value.Print(v))
	}
	if w.HasLo {
		l = append(l, ">= "+value.Print(w.Lo))
	}
	if w.HasHi {
		l = append(l, "<= "+value.Print(w.Hi))
	}
	return strings.Join(l, " ")
}

var (
	everyRow = api.Way{Key: -1}
	null     = api.Value{}
	no       = api.Value{Kind: api.Bool}
	yes      = api.Value{Kind: api.Bool, Int: 1}
)

func integer(n int64) api.Value { return api.Value{Kind: api.Int, Int: n} }

func textOf(s string) api.Value { return api.Value{Kind: api.Text, Text: s} }

func constant(v api.Value) api.Expr { return api.Expr{Kind: api.EValue, Value: v} }

func col(name string) api.Expr { return api.Expr{Kind: api.ECol, Name: name} }

func node(kind, op int, args ...api.Expr) api.Expr {
	return api.Expr{Kind: kind, Op: op, Args: args}
}

// deepCopy copies v with all that hangs on it; of lists the room behind them, too.
func deepCopy[T any](v T) T { return copyOf(reflect.ValueOf(v)).Interface().(T) }

func copyOf(v reflect.Value) reflect.Value {
	out := reflect.New(v.Type()).Elem()
	switch v.Kind() {
	case reflect.Slice:
		if v.IsNil() {
			return out
		}
		room := v.Slice(0, v.Cap())
		out.Set(reflect.MakeSlice(v.Type(), v.Cap(), v.Cap()))
		for i := range room.Len() {
			out.Index(i).Set(copyOf(room.Index(i)))
		}
		out.SetLen(v.Len())
	case reflect.Struct:
		for i := range v.NumField() {
			out.Field(i).Set(copyOf(v.Field(i)))
		}
	default:
		out.Set(v)
	}
	return out
}

// equal: whether all is alike; nil and empty are one.
func equal[T any](a, b T) bool {
	a, b = deepCopy(a), deepCopy(b)
	for _, v := range append(spots(&a), spots(&b)...) {
		if v.Kind() == reflect.Slice && v.Len() == 0 {
			v.SetZero()
		}
	}
	return reflect.DeepEqual(a, b)
}

// spots tells all places of what x points to: fields and elements, however deep.
func spots(x any) []reflect.Value {
	var out []reflect.Value
	var walk func(v reflect.Value)
	walk = func(v reflect.Value) {
		out = append(out, v)
		switch v.Kind() {
		case reflect.Slice:
			for i := range v.Len() {
				walk(v.Index(i))
			}
		case reflect.Struct:
			for i := range v.NumField() {
				walk(v.Field(i))
			}
		}
	}
	walk(reflect.ValueOf(x).Elem())
	return out
}

// chance tells a number from 0 to n - 1.
type chance func(n int) int

func byChance(seed int64) chance { return rand.New(rand.NewSource(seed)).Intn }

func pick[T any](c chance, l ...T) T { return l[c(len(l))] }
