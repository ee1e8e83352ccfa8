package parse_test

import (
	"errors"
	"math/rand"
	"reflect"
	"strconv"
	"strings"
	"testing"

	"consistory/api"
	"consistory/parse"
	"consistory/tree"
)

// classes: all that there are, of which an error has just one.
var classes = []api.Class{
	api.ErrSyntax, api.ErrLimit, api.ErrName, api.ErrType, api.ErrConstraint, api.ErrOverflow, api.ErrZero,
	api.ErrForm, api.ErrSum, api.ErrShort, api.ErrFile, api.ErrFull, api.ErrDown, api.ErrPlace,
	api.ErrNode, api.ErrLead, api.ErrWait, api.ErrBusy, api.ErrLine,
}

// fault tells an error's class and place, and that it has no other class.
func fault(t *testing.T, err error) string {
	t.Helper()
	var c api.Class
	var p *api.Placed
	if !errors.As(err, &c) || !errors.As(err, &p) {
		t.Fatalf("an error without a class or a place: %v", err)
	}
	for _, other := range classes {
		if errors.Is(err, other) != (other == c) {
			t.Fatalf("%v: of class %d, and of %d", err, c, other)
		}
	}
	return wrong(c, p.At)
}

func wrong(c api.Class, at int) string {
	return "class " + strconv.Itoa(int(c)) + " at " + strconv.Itoa(at)
}

// told tells what Parse answers: the statement as it is printed, or the fault.
func told(t *testing.T, s string) string {
	t.Helper()
	x, err := parse.Parse(s)
	if err != nil {
		if !reflect.ValueOf(x).IsZero() {
			t.Errorf("rule 4: %q: %+v beside %v", s, x, err)
		}
		return fault(t, err)
	}
	if !tree.Is(x) {
		t.Fatalf("P10.3: %q: no statement: %+v", s, x)
	}
	printed, err := tree.Print(x)
	if err != nil {
		t.Fatalf("P10.3: %q: %v", s, err)
	}
	return printed
}

// statement tells what Parse answers of what is one.
func statement(t *testing.T, s string) api.Stmt {
	t.Helper()
	x, err := parse.Parse(s)
	if err != nil {
		t.Fatalf("%q: %v", s, err)
	}
	return x
}

func number(n int64) api.Expr {
	return api.Expr{Kind: api.EValue, Value: api.Value{Kind: api.Int, Int: n}}
}

func text(s string) api.Expr {
	return api.Expr{Kind: api.EValue, Value: api.Value{Kind: api.Text, Text: s}}
}

func truth(n int64) api.Expr {
	return api.Expr{Kind: api.EValue, Value: api.Value{Kind: api.Bool, Int: n}}
}

func null() api.Expr { return api.Expr{Kind: api.EValue} }

func col(name string) api.Expr { return api.Expr{Kind: api.ECol, Name: name} }

func colOf(table, name string) api.Expr { return api.Expr{Kind: api.ECol, Table: table, Name: name} }

func node(kind, op int, args ...api.Expr) api.Expr {
	return api.Expr{Kind: kind, Op: op, Args: args}
}

func unary(op int, e api.Expr) api.Expr { return node(api.EUnary, op, e) }

func binary(op int, a, b api.Expr) api.Expr { return node(api.EBinary, op, a, b) }

func isIn(args ...api.Expr) api.Expr { return node(api.EIn, 0, args...) }

func caseOf(args ...api.Expr) api.Expr { return node(api.ECase, 0, args...) }

func agg(op int, args ...api.Expr) api.Expr { return node(api.EAgg, op, args...) }

// equal: whether all is alike; nil and empty are one.
func equal(a, b api.Stmt) bool {
	a, b = tree.Bare(a), tree.Bare(b)
	return reflect.DeepEqual(a, b)
}

// isBare: whether x has no field that only resolve tells.
func isBare(x api.Stmt) bool {
	var walk func(v reflect.Value) bool
	walk = func(v reflect.Value) bool {
		if e, ok := v.Interface().(api.Expr); ok && (e.At != 0 || e.Type != 0) {
			return false
		}
		switch v.Kind() {
		case reflect.Slice:
			for i := range v.Len() {
				if !walk(v.Index(i)) {
					return false
				}
			}
		case reflect.Struct:
			for i := range v.NumField() {
				if !walk(v.Field(i)) {
					return false
				}
			}
		}
		return true
	}
	return walk(reflect.ValueOf(x))
}

// row writes n of s with commas between.
func row(n int, s string) string {
	return strings.TrimSuffix(strings.Repeat(s+", ", n), ", ")
}

// chance tells a number from 0 to n - 1.
type chance func(n int) int

func byChance(seed int64) chance { return rand.New(rand.NewSource(seed)).Intn }

func pick[T any](c chance, l []T) T { return l[c(len(l))] }
