package machine_test

import (
	"bytes"
	"errors"
	"fmt"
	"math/rand"
	"reflect"
	"strings"
	"testing"

	"consistory/api"
	"consistory/machine"
	"consistory/value"
)

// classes: all that there are, of which an error has just one.
var classes = []api.Class{
	api.ErrSyntax, api.ErrLimit, api.ErrName, api.ErrType, api.ErrConstraint, api.ErrOverflow, api.ErrZero,
	api.ErrForm, api.ErrSum, api.ErrShort, api.ErrFile, api.ErrFull, api.ErrDown, api.ErrPlace,
	api.ErrNode, api.ErrLead, api.ErrWait, api.ErrBusy, api.ErrLine,
}

// class tells an error's, 0 of none, and that it has no other one.
func class(t *testing.T, err error) api.Class {
	t.Helper()
	if err == nil {
		return 0
	}
	var c api.Class
	if !errors.As(err, &c) {
		t.Fatalf("rule 5: an error without a class: %v", err)
	}
	for _, other := range classes {
		if errors.Is(err, other) != (other == c) {
			t.Fatalf("rule 5: %v: of class %d, and of %d", err, c, other)
		}
	}
	return c
}

func command(client, seq uint64, sql string) api.Entry {
	return api.Entry{Term: 3, Kind: api.EnCommand, Client: client, Seq: seq, Sql: sql}
}

// commands tells a client's, Seq 1 the first.
func commands(client uint64, l ...string) []api.Entry {
	var out []api.Entry
	for i, sql := range l {
		out = append(out, command(client, uint64(i+1), sql))
	}
	return out
}

// statements: tables with keys of all kinds, rows, and numbers at which something goes wrong.
var statements = []string{
	"CREATE TABLE t (a INT PRIMARY KEY, b TEXT UNIQUE, c BOOL NOT NULL)",
	"CREATE INDEX i ON t (c, b)",
	"CREATE TABLE n (g INT, z INT, UNIQUE (z, g))",
	"CREATE UNIQUE INDEX j ON n (g)",
	"CREATE TABLE e (a INT)",
	"INSERT INTO t VALUES (1, 'x', TRUE), (2, NULL, FALSE), (3, 'y', TRUE), (4, NULL, FALSE)",
	"INSERT INTO n VALUES (9223372036854775807, 1), (0, 0), (-9223372036854775808, NULL), (NULL, 1)",
	"DELETE FROM t WHERE a = 3",
}

// filled: a machine that has applied the statements above as client 7's, and what it must be.
func filled(t *testing.T) pair {
	t.Helper()
	p := fresh()
	for _, e := range commands(7, statements...) {
		if r := p.apply(t, e); r.Class != 0 {
			t.Fatalf("%q: %s", e.Sql, say(r))
		}
	}
	return p
}

// say writes a reply: `6: 2 at 3` of the command 6; `a b: 1 'x', 2 NULL at 3` of a question; `6: class 5 at 3`.
func say(r api.Reply) string {
	s := fmt.Sprint(r.Answer.Count)
	if len(r.Answer.Cols) > 0 {
		var l []string
		for _, row := range r.Answer.Rows {
			l = append(l, sayValues(row, " "))
		}
		s = strings.Join(r.Answer.Cols, " ") + ": " + strings.Join(l, ", ")
	}
	if r.Class != 0 {
		s = fmt.Sprint("class ", int(r.Class))
	}
	if r.Seq != 0 {
		s = fmt.Sprint(r.Seq, ": ", s)
	}
	return fmt.Sprint(s, " at ", r.Index)
}

func sayValues(l []api.Value, between string) string {
	var out []string
	for _, v := range l {
		out = append(out, value.Print(v))
	}
	return strings.Join(out, between)
}

// state: what a store tells of itself.
type state struct {
	Schema api.Schema
	Data   api.Data
}

// say writes the tables with their rows: `t: 1 (5, 'x'), 3 (6, NULL), next 4; u: next 1`.
func (x state) say() string {
	var out []string
	for i, t := range x.Schema.Tables {
		var l []string
		for _, r := range x.Data.Rows[i] {
			l = append(l, fmt.Sprintf("%d (%s)", r.Id, sayValues(r.Vals, ", ")))
		}
		out = append(out, t.Name+": "+strings.Join(append(l, fmt.Sprint("next ", x.Data.Next[i])), ", "))
	}
	return strings.Join(out, "; ")
}

func stateOf(m *machine.Machine) state {
	store := m.Store()
	return state{store.Schema(), store.Data()}
}

// loaded tells what Load answers, and that there is no machine beside an error; nil, if it is refused.
func loaded(t *testing.T, b []byte) *machine.Machine {
	t.Helper()
	m, err := machine.Load(b)
	if err == nil && m == nil {
		t.Fatalf("P18.3: no machine of %x", b)
	}
	if err != nil && m != nil {
		t.Fatalf("rule 4: a machine beside %v", err)
	}
	if c := class(t, err); c != 0 && c != api.ErrForm {
		t.Fatalf("P18.3: %x: %v", b, err)
	}
	if m != nil && !bytes.Equal(m.Dump(), b) {
		t.Fatalf("P18.3: of %x the dump %x", b, m.Dump())
	}
	return m
}

// deepCopy copies v with all that hangs on it; of lists the room behind them, too.
func deepCopy[T any](v T) T { return copyOf(reflect.ValueOf(v)).Interface().(T) }

func copyOf(v reflect.Value) reflect.Value {
	out := reflect.New(v.Type()).Elem()
	switch v.Kind() {
	case reflect.Slice:
		if v.IsNil() {
			return out
		}
		room := v.Slice(0, v.Cap())
		out.Set(reflect.MakeSlice(v.Type(), v.Cap(), v.Cap()))
		for i := range room.Len() {
			out.Index(i).Set(copyOf(room.Index(i)))
		}
		out.SetLen(v.Len())
	case reflect.Struct:
		for i := range v.NumField() {
			out.Field(i).Set(copyOf(v.Field(i)))
		}
	default:
		out.Set(v)
	}
	return out
}

// alike: whether all of two values is; nil and empty are one.
func alike(a, b reflect.Value) bool {
	switch a.Kind() {
	case reflect.Slice:
		if a.Len() != b.Len() {
			return false
		}
		for i := range a.Len() {
			if !alike(a.Index(i), b.Index(i)) {
				return false
			}
		}
		return true
	case reflect.Struct:
		for i := range a.NumField() {
			if !alike(a.Field(i), b.Field(i)) {
				return false
			}
		}
		return true
	}
	return a.Equal(b)
}

func equal[T any](a, b T) bool { return alike(reflect.ValueOf(a), reflect.ValueOf(b)) }

// spots tells all places of what x points to: fields and elements, however deep.
func spots(x any) []reflect.Value {
	var out []reflect.Value
	var walk func(v reflect.Value)
	walk = func(v reflect.Value) {
		out = append(out, v)
		switch v.Kind() {
		case reflect.Slice:
			for i := range v.Len() {
				walk(v.Index(i))
			}
		case reflect.Struct:
			for i := range v.NumField() {
				walk(v.Field(i))
			}
		}
	}
	walk(reflect.ValueOf(x).Elem())
	return out
}

// chance tells a number from 0 to n - 1.
type chance func(n int) int

func byChance(seed int64) chance { return rand.New(rand.NewSource(seed)).Intn }

func pick[T any](c chance, l ...T) T { return l[c(len(l))] }
