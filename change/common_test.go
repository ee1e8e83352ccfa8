package change_test

import (
	"errors"
	"fmt"
	"math/rand"
	"reflect"
	"slices"
	"strings"
	"testing"

	"consistory/api"
	"consistory/change"
	"consistory/parse"
	"consistory/table"
	"consistory/value"
)

// classes: all that there are, of which an error has just one.
var classes = []api.Class{
	api.ErrSyntax, api.ErrLimit, api.ErrName, api.ErrType, api.ErrConstraint, api.ErrOverflow, api.ErrZero,
	api.ErrForm, api.ErrSum, api.ErrShort, api.ErrFile, api.ErrFull, api.ErrDown, api.ErrPlace,
	api.ErrNode, api.ErrLead, api.ErrWait, api.ErrBusy, api.ErrLine,
}

// class tells an error's, 0 of none, and that it has no other one.
func class(t *testing.T, err error) api.Class {
	t.Helper()
	if err == nil {
		return 0
	}
	var c api.Class
	if !errors.As(err, &c) {
		t.Fatalf("rule 5: an error without a class: %v", err)
	}
	for _, other := range classes {
		if errors.Is(err, other) != (other == c) {
			t.Fatalf("rule 5: %v: of class %d, and of %d", err, c, other)
		}
	}
	return c
}

func statement(t *testing.T, sql string) api.Stmt {
	t.Helper()
	x, err := parse.Parse(sql)
	if err != nil {
		t.Fatalf("%q: %v", sql, err)
	}
	return x
}

// state: what a store tells of itself.
type state struct {
	Schema api.Schema
	Data   api.Data
}

func stateOf(store *table.Store) state { return state{store.Schema(), store.Data()} }

// say writes the tables with their rows: `t: 1 (5, 'x'), 3 (6, NULL), next 4; u: next 1`.
func (x state) say() string {
	var out []string
	for i, t := range x.Schema.Tables {
		var l []string
		for _, r := range x.Data.Rows[i] {
			l = append(l, fmt.Sprintf("%d (%s)", r.Id, sayValues(r.Vals, ", ")))
		}
		out = append(out, t.Name+": "+strings.Join(append(l, fmt.Sprint("next ", x.Data.Next[i])), ", "))
	}
	return strings.Join(out, "; ")
}

func sayValues(l []api.Value, between string) string {
	var out []string
	for _, v := range l {
		out = append(out, value.Print(v))
	}
	return strings.Join(out, between)
}

// say writes an answer: `a b: 1 'x', 2 NULL` of a question, else how many; or `class 7`.
func say(a api.Answer, c api.Class) string {
	switch {
	case c != 0:
		return fmt.Sprint("class ", int(c))
	case len(a.Cols) == 0:
		return fmt.Sprint(a.Count)
	}
	var out []string
	for _, row := range a.Rows {
		out = append(out, sayValues(row, " "))
	}
	return strings.Join(a.Cols, " ") + ": " + strings.Join(out, ", ")
}

// filled tells a store behind statements, none of which is refused.
func filled(t *testing.T, l ...string) *table.Store {
	t.Helper()
	store := table.New()
	for _, sql := range l {
		if a, c := hold(t, store, statement(t, sql)); c != 0 {
			t.Fatalf("%q: %s", sql, say(a, c))
		}
	}
	return store
}

// store: t with keys of all kinds, and NULLs; n with numbers at which sums and quotients go wrong, and an index; e without rows.
func store(t *testing.T) *table.Store {
	t.Helper()
	return filled(t,
		"CREATE TABLE t (a INT PRIMARY KEY, b INT, s TEXT UNIQUE, p BOOL NOT NULL)",
		"CREATE INDEX i ON t (b)",
		"CREATE TABLE n (g INT, z INT)",
		"CREATE INDEX j ON n (g, z)",
		"CREATE TABLE e (a INT, b INT)",
		"INSERT INTO t VALUES (1, 5, 'x', TRUE), (2, 0, 'y', FALSE), (3, NULL, NULL, TRUE), (4, 5, NULL, FALSE)",
		"INSERT INTO n VALUES (1, 1), (0, 0), (9223372036854775807, 1), (2, NULL)",
	)
}

const (
	filledT = "t: 1 (1, 5, 'x', TRUE), 2 (2, 0, 'y', FALSE), 3 (3, NULL, NULL, TRUE), 4 (4, 5, NULL, FALSE), next 5"
	filledN = "n: 1 (1, 1), 2 (0, 0), 3 (9223372036854775807, 1), 4 (2, NULL), next 5"
	filledE = "e: next 1"
	asItWas = ""
)

// cases: texts, what each of them is answered by a store of its own, and what its table has behind it (asItWas: what it had).
type cases []struct{ sql, want, then string }

func (l cases) run(t *testing.T, label string) {
	t.Helper()
	was := strings.Join([]string{filledT, filledN, filledE}, "; ")
	for _, c := range l {
		store := store(t)
		a, class := hold(t, store, statement(t, c.sql))
		if got := say(a, class); got != c.want {
			t.Errorf("%s: %s: %s, want %s", label, c.sql, got, c.want)
		}
		want := was
		if c.then != asItWas {
			name, _, _ := strings.Cut(c.then, ":")
			tables := strings.Split(was, "; ")
			tables[slices.IndexFunc(tables, func(s string) bool { return strings.HasPrefix(s, name+":") })] = c.then
			want = strings.Join(tables, "; ")
		}
		if got := stateOf(store).say(); got != want {
			t.Errorf("%s: %s: then %s, want %s", label, c.sql, got, want)
		}
		runs(t, c.sql)
	}
}

// runs: Run of the text tells and does what Do of what it says does: P17.2.
func runs(t *testing.T, sql string) {
	t.Helper()
	one, other := store(t), store(t)
	a, err := change.Run(one, sql)
	b, c := did(t, other, statement(t, sql))
	if class(t, err) != c || !equal(a, b) || !equal(stateOf(one), stateOf(other)) {
		t.Errorf("P17.2: %s: %v, %s, want %s", sql, err, say(a, class(t, err)), say(b, c))
	}
}

// did tells what Do answers, and that there is nothing beside an error.
func did(t *testing.T, store *table.Store, x api.Stmt) (api.Answer, api.Class) {
	t.Helper()
	a, err := change.Do(store, x)
	return answered(t, a, err)
}

func answered(t *testing.T, a api.Answer, err error) (api.Answer, api.Class) {
	t.Helper()
	if err != nil && !reflect.DeepEqual(a, api.Answer{}) {
		t.Errorf("rule 4: %+v beside %v", a, err)
	}
	return a, class(t, err)
}

var (
	null = api.Value{}
	no   = api.Value{Kind: api.Bool}
	yes  = api.Value{Kind: api.Bool, Int: 1}
)

func integer(n int64) api.Value { return api.Value{Kind: api.Int, Int: n} }

func textOf(s string) api.Value { return api.Value{Kind: api.Text, Text: s} }

func constant(v api.Value) api.Expr { return api.Expr{Kind: api.EValue, Value: v} }

func col(name string) api.Expr { return api.Expr{Kind: api.ECol, Name: name} }

func node(kind, op int, args ...api.Expr) api.Expr {
	return api.Expr{Kind: kind, Op: op, Args: args}
}

// deepCopy copies v with all that hangs on it; of lists the room behind them, too.
func deepCopy[T any](v T) T { return copyOf(reflect.ValueOf(v)).Interface().(T) }

func copyOf(v reflect.Value) reflect.Value {
	out := reflect.New(v.Type()).Elem()
	switch v.Kind() {
	case reflect.Slice:
		if v.IsNil() {
			return out
		}
		room := v.Slice(0, v.Cap())
		out.Set(reflect.MakeSlice(v.Type(), v.Cap(), v.Cap()))
		for i := range room.Len() {
			out.Index(i).Set(copyOf(room.Index(i)))
		}
		out.SetLen(v.Len())
	case reflect.Struct:
		for i := range v.NumField() {
			out.Field(i).Set(copyOf(v.Field(i)))
		}
	default:
		out.Set(v)
	}
	return out
}

// alike: whether all of two values is; nil and empty are one.
func alike(a, b reflect.Value) bool {
	switch a.Kind() {
	case reflect.Slice:
		if a.Len() != b.Len() {
			return false
		}
		for i := range a.Len() {
			if !alike(a.Index(i), b.Index(i)) {
				return false
			}
		}
		return true
	case reflect.Struct:
		for i := range a.NumField() {
			if !alike(a.Field(i), b.Field(i)) {
				return false
			}
		}
		return true
	}
	return a.Equal(b)
}

func equal[T any](a, b T) bool { return alike(reflect.ValueOf(a), reflect.ValueOf(b)) }

// spots tells all places of what x points to: fields and elements, however deep.
func spots(x any) []reflect.Value {
	var out []reflect.Value
	var walk func(v reflect.Value)
	walk = func(v reflect.Value) {
		out = append(out, v)
		switch v.Kind() {
		case reflect.Slice:
			for i := range v.Len() {
				walk(v.Index(i))
			}
		case reflect.Struct:
			for i := range v.NumField() {
				walk(v.Field(i))
			}
		}
	}
	walk(reflect.ValueOf(x).Elem())
	return out
}

// chance tells a number from 0 to n - 1.
type chance func(n int) int

func byChance(seed int64) chance { return rand.New(rand.NewSource(seed)).Intn }

func pick[T any](c chance, l ...T) T { return l[c(len(l))] }
