package table_test

import (
	"errors"
	"fmt"
	"math/rand"
	"reflect"
	"strings"
	"testing"

	"consistory/api"
	"consistory/parse"
	"consistory/table"
	"consistory/value"
)

// classes: all that there are, of which an error has just one.
var classes = []api.Class{
	api.ErrSyntax, api.ErrLimit, api.ErrName, api.ErrType, api.ErrConstraint, api.ErrOverflow, api.ErrZero,
	api.ErrForm, api.ErrSum, api.ErrShort, api.ErrFile, api.ErrFull, api.ErrDown, api.ErrPlace,
	api.ErrNode, api.ErrLead, api.ErrWait, api.ErrBusy, api.ErrLine,
}

// class tells an error's, 0 of none, and that it has no other one.
func class(t *testing.T, err error) api.Class {
	t.Helper()
	if err == nil {
		return 0
	}
	var c api.Class
	if !errors.As(err, &c) {
		t.Fatalf("rule 5: an error without a class: %v", err)
	}
	for _, other := range classes {
		if errors.Is(err, other) != (other == c) {
			t.Fatalf("rule 5: %v: of class %d, and of %d", err, c, other)
		}
	}
	return c
}

func statement(t *testing.T, sql string) api.Stmt {
	t.Helper()
	x, err := parse.Parse(sql)
	if err != nil {
		t.Fatalf("%q: %v", sql, err)
	}
	return x
}

var null api.Value

func num(n int64) api.Value   { return api.Value{Kind: api.Int, Int: n} }
func text(s string) api.Value { return api.Value{Kind: api.Text, Text: s} }

func truth(b bool) api.Value {
	if b {
		return api.Value{Kind: api.Bool, Int: 1}
	}
	return api.Value{Kind: api.Bool}
}

// wrongValues: of each kind what may not be.
var wrongValues = []api.Value{
	{Kind: 4}, {Kind: -1}, {Int: 1}, {Text: "a"}, {Kind: api.Bool, Int: 2}, {Kind: api.Bool, Int: -1}, {Kind: api.Bool, Text: "a"},
	{Kind: api.Int, Text: "a"}, {Kind: api.Text, Int: 1}, {Kind: api.Text, Text: strings.Repeat("a", api.MaxText+1)}, {Kind: api.Text, Text: "a\x00"},
}

func vals(l ...api.Value) []api.Value           { return l }
func row(id uint64, l ...api.Value) api.Row     { return api.Row{Id: id, Vals: l} }
func rows(l ...api.Row) []api.Row               { return l }
func ids(l ...uint64) []uint64                  { return l }
func made(l ...[]api.Value) [][]api.Value       { return l }
func eq(key int, l ...api.Value) api.Way        { return api.Way{Key: key, Eq: l} }
func from(w api.Way, v api.Value) api.Way       { w.Lo, w.HasLo = v, true; return w }
func upTo(w api.Way, v api.Value) api.Way       { w.Hi, w.HasHi = v, true; return w }
func between(w api.Way, a, b api.Value) api.Way { return upTo(from(w, a), b) }

// many makes a list of n elements.
func many[T any](n int, one T) []T {
	l := make([]T, n)
	for i := range l {
		l[i] = one
	}
	return l
}

// define tells the class of what Define answers of a statement, and that a refused one has changed nothing.
func define(t *testing.T, x *table.Store, s api.Stmt) api.Class {
	t.Helper()
	was := show(x)
	c := class(t, x.Define(s))
	if got := show(x); c != 0 && got != was {
		t.Errorf("rule 4: Define of %+v: class %d, and %s has become %s", s, c, was, got)
	}
	return c
}

// write likewise of Write.
func write(t *testing.T, x *table.Store, i int, ups []api.Row, gone []uint64, made [][]api.Value) api.Class {
	t.Helper()
	was := show(x)
	c := class(t, x.Write(i, ups, gone, made))
	if got := show(x); c != 0 && got != was {
		t.Errorf("rule 4: Write of %v, %v, %v: class %d, and %s has become %s", ups, gone, made, c, was, got)
	}
	return c
}

// tell tells the Ids of the rows that Rows answers, or the class; and that the rows are those of Data.
func tell(t *testing.T, x *table.Store, i int, w api.Way) string {
	t.Helper()
	l, err := x.Rows(i, w)
	if err != nil {
		if len(l) != 0 {
			t.Errorf("rule 4: %v beside %v", l, err)
		}
		return class(t, err).Error()
	}
	var told []string
	for _, r := range l {
		told = append(told, fmt.Sprint(r.Id))
		if got := showRow(r); !strings.Contains(show(x), " "+got) {
			t.Errorf("P12.4: row %s isn't one of %s", got, show(x))
		}
	}
	return strings.Join(told, " ")
}

// store tells one with tables that statements make.
func store(t *testing.T, l ...string) *table.Store {
	t.Helper()
	x := table.New()
	for _, sql := range l {
		if c := define(t, x, statement(t, sql)); c != 0 {
			t.Fatalf("P12.2: %s: class %d", sql, c)
		}
	}
	return x
}

// wantWrite: which is taken.
func wantWrite(t *testing.T, x *table.Store, i int, ups []api.Row, gone []uint64, made [][]api.Value) {
	t.Helper()
	if c := write(t, x, i, ups, gone, made); c != 0 {
		t.Fatalf("P12.3: %v, %v, %v: class %d", ups, gone, made, c)
	}
}

// richTables: with keys of all kinds.
var richTables = []string{
	"CREATE TABLE t (a INT PRIMARY KEY, b TEXT UNIQUE, c BOOL NOT NULL)",
	"CREATE INDEX i ON t (c, a)",
	"CREATE UNIQUE INDEX j ON t (b, c)",
	"CREATE TABLE u (x INT, y TEXT, UNIQUE (y, x))",
	"CREATE INDEX k ON u (x, y)",
	"CREATE TABLE v (a BOOL)",
}

const (
	richT     = "t a INT!, b TEXT, c BOOL!, P(0), U(1), i(2 0), Uj(1 2)"
	richU     = "u x INT, y TEXT, U(1 0), k(0 1)"
	richRowsT = " 1(1,'x',TRUE) 2(2,NULL,FALSE) 3(3,NULL,FALSE) 5(-4,'',TRUE) /6"
	richRowsU = " 1(1,'a') 2(NULL,'a') 3(NULL,'a') 4(2,NULL) 5(NULL,NULL) 6(2,'b') 7(1,'ab') 8(-1,'a') /9"
	richShown = richT + richRowsT + "; " + richU + richRowsU + "; v a BOOL 1(NULL) 2(TRUE) /3"
)

// rich tells a store with all that there may be.
func rich(t *testing.T) *table.Store {
	t.Helper()
	x := store(t, richTables...)
	wantWrite(t, x, 0, nil, nil, made(
		vals(num(1), text("x"), truth(true)), vals(num(2), null, truth(false)), vals(num(3), null, truth(false)),
		vals(num(4), text("y"), truth(false)), vals(num(-4), text(""), truth(true))))
	wantWrite(t, x, 0, nil, ids(4), nil)
	wantWrite(t, x, 1, nil, nil, made(
		vals(num(1), text("a")), vals(null, text("a")), vals(null, text("a")), vals(num(2), null), vals(null, null),
		vals(num(2), text("b")), vals(num(1), text("ab")), vals(num(-1), text("a"))))
	wantWrite(t, x, 2, nil, nil, made(vals(null), vals(truth(true))))
	if got := show(x); got != richShown {
		t.Fatalf("P12.3: %s, want %s", got, richShown)
	}
	return x
}

// show writes all that a store has: `t a INT!, b TEXT, P(0), Ui(1) 1(5,'x') 2(6,NULL) /3; u x BOOL /1` (! of NotNull, P of Primary, U of Unique; rows by Id; Next).
func show(x *table.Store) string { return showAll(x.Schema(), x.Data()) }

func showAll(s api.Schema, d api.Data) string {
	var tables []string
	for i, t := range s.Tables {
		out := showTable(t) + " "
		for _, r := range d.Rows[i] {
			out += showRow(r) + " "
		}
		tables = append(tables, out+"/"+fmt.Sprint(d.Next[i]))
	}
	return strings.Join(tables, "; ")
}

func showRow(r api.Row) string {
	var l []string
	for _, v := range r.Vals {
		l = append(l, value.Print(v))
	}
	return fmt.Sprintf("%d(%s)", r.Id, strings.Join(l, ","))
}

func showTable(t api.Table) string {
	var parts []string
	for _, c := range t.Cols {
		kind := map[int]string{api.Bool: "BOOL", api.Int: "INT", api.Text: "TEXT"}[c.Type]
		parts = append(parts, c.Name+" "+kind+map[bool]string{true: "!"}[c.NotNull])
	}
	for _, k := range t.Keys {
		kind := map[bool]string{true: "U"}[k.Unique]
		if k.Primary {
			kind = "P"
		}
		parts = append(parts, kind+k.Name+strings.NewReplacer("[", "(", "]", ")").Replace(fmt.Sprint(k.Cols)))
	}
	return t.Name + " " + strings.Join(parts, ", ")
}

// spot: one place within something: how it is called from there on, and what is there.
type spot struct {
	path string
	v    reflect.Value
}

// spots tells all places of what x points to: fields and elements, however deep.
func spots(x any) []spot {
	var out []spot
	var walk func(path string, v reflect.Value)
	walk = func(path string, v reflect.Value) {
		out = append(out, spot{path, v})
		switch v.Kind() {
		case reflect.Slice:
			for i := range v.Len() {
				walk(fmt.Sprintf("%s[%d]", path, i), v.Index(i))
			}
		case reflect.Struct:
			for i := range v.NumField() {
				walk(path+"."+v.Type().Field(i).Name, v.Field(i))
			}
		}
	}
	walk("", reflect.ValueOf(x).Elem())
	return out
}

// deepCopy copies v with all that hangs on it; of lists the room behind them, too.
func deepCopy[T any](v T) T { return copyOf(reflect.ValueOf(v)).Interface().(T) }

func copyOf(v reflect.Value) reflect.Value {
	out := reflect.New(v.Type()).Elem()
	switch v.Kind() {
	case reflect.Slice:
		if v.IsNil() {
			return out
		}
		room := v.Slice(0, v.Cap())
		out.Set(reflect.MakeSlice(v.Type(), v.Cap(), v.Cap()))
		for i := range room.Len() {
			out.Index(i).Set(copyOf(room.Index(i)))
		}
		out.SetLen(v.Len())
	case reflect.Struct:
		for i := range v.NumField() {
			out.Field(i).Set(copyOf(v.Field(i)))
		}
	default:
		out.Set(v)
	}
	return out
}

// chance tells a number from 0 to n - 1.
type chance func(n int) int

func byChance(seed int64) chance { return rand.New(rand.NewSource(seed)).Intn }

func pick[T any](c chance, l ...T) T { return l[c(len(l))] }
