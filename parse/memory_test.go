package parse_test

import (
	"reflect"
	"strings"
	"testing"
	"unsafe"

	"consistory/api"
	"consistory/parse"
	"consistory/tree"
)

// parts calls visit with all that hangs on v.
func parts(v reflect.Value, visit func(reflect.Value)) {
	visit(v)
	switch v.Kind() {
	case reflect.Slice:
		for i := range v.Len() {
			parts(v.Index(i), visit)
		}
	case reflect.Struct:
		for i := range v.NumField() {
			parts(v.Field(i), visit)
		}
	}
}

// lists tells where each list of x begins and ends, its room with it.
func lists(x *api.Stmt) [][2]uintptr {
	var out [][2]uintptr
	parts(reflect.ValueOf(x).Elem(), func(v reflect.Value) {
		if v.Kind() == reflect.Slice && v.Cap() > 0 {
			at := v.Pointer()
			out = append(out, [2]uintptr{at, at + uintptr(v.Cap())*v.Type().Elem().Size()})
		}
	})
	return out
}

func overlap(a, b [2]uintptr) bool { return a[0] < b[1] && b[0] < a[1] }

// twofold: statements in which something is told once and stands at two places, beside the fullest.
func twofold() []string {
	return append([]string{
		"SELECT (a + b) * CASE WHEN a IN (1, 2) THEN - b END BETWEEN c + 1 AND SUM(d) FROM t WHERE ((a + 1) NOT BETWEEN 1 AND 2) BETWEEN b AND c",
		"CREATE TABLE t (a INT PRIMARY KEY UNIQUE, b INT UNIQUE, UNIQUE (a, b))",
	}, fullest...)
}

func TestAnswersAreNewMemory(t *testing.T) {
	for _, s := range twofold() {
		a, b := statement(t, s), statement(t, s)
		own, others := lists(&a), lists(&b)
		for i, l := range own {
			for k, other := range own {
				if i != k && overlap(l, other) {
					t.Errorf("rule 3: %q: lists %d and %d share memory", s, i, k)
				}
			}
			for _, other := range others {
				if overlap(l, other) {
					t.Errorf("rule 3: %q: list %d is another answer's", s, i)
				}
			}
		}
		begin := uintptr(unsafe.Pointer(unsafe.StringData(s)))
		parts(reflect.ValueOf(&a).Elem(), func(v reflect.Value) {
			if v.Kind() == reflect.String && v.Len() > 0 {
				if at := uintptr(unsafe.Pointer(unsafe.StringData(v.String()))); at >= begin && at < begin+uintptr(len(s)) {
					t.Errorf("rule 3: %q: %q is the argument's", s, v.String())
				}
			}
		})
	}
}

func TestAnswersStay(t *testing.T) {
	for _, s := range twofold() {
		a, b := statement(t, s), statement(t, s)
		parts(reflect.ValueOf(&a).Elem(), func(v reflect.Value) {
			if v.Kind() == reflect.Slice {
				v.SetLen(v.Cap())
			}
		})
		parts(reflect.ValueOf(&a).Elem(), func(v reflect.Value) { v.SetZero() })
		parse.Parse("SELECT FROM")
		if c := statement(t, s); !equal(b, c) || !tree.Is(c) {
			t.Errorf("rules 3, 6: %q: what is done with an answer is seen in another", s)
		}
	}
}

// betweens nests n of them, each the first operand of the next one.
func betweens(n int, begin, op string) string {
	return begin + strings.Repeat("(", n) + "a" + strings.Repeat(op, n)
}

func count(e api.Expr) int {
	n := 1
	for _, a := range e.Args {
		n += count(a)
	}
	return n
}

// TestBetweenDoubles: what stands ahead of a BETWEEN stands at two places, and so on.
func TestBetweenDoubles(t *testing.T) {
	want := 1
	for n := 1; n <= 14; n++ {
		x := statement(t, betweens(n, "DELETE FROM t WHERE ", " BETWEEN 1 AND 2)"))
		if want = 2*want + 5; count(x.Where) != want || !tree.Is(x) {
			t.Errorf("P10.1: %d of BETWEEN: %d parts, want %d", n, count(x.Where), want)
		}
	}
	x := statement(t, "DELETE FROM t WHERE "+strings.TrimSuffix(strings.Repeat("a BETWEEN 1 AND 2 AND ", 89), " AND "))
	if got := count(x.Where); got != 89*7+88 {
		t.Errorf("P10.1: BETWEEN beside BETWEEN: %d parts", got)
	}
}

// TestBetweenEnds: what would outgrow the bound of what is answered in one call is refused, and nothing is made of it.
func TestBetweenEnds(t *testing.T) {
	for _, op := range []string{" BETWEEN 1 AND 2)", " NOT BETWEEN 1 AND 2)"} {
		for n := 22; n <= 30; n++ {
			begin := betweens(n, "DELETE FROM t WHERE ", "")
			place := len(begin) + 21*len(op) + strings.Index(op, "BETWEEN")
			if got := told(t, betweens(n, "DELETE FROM t WHERE ", op)); got != wrong(api.ErrLimit, place) {
				t.Errorf("P10.3: %d of%s: %s, want it at %d", n, op, got, place)
			}
		}
	}
	deep := "DELETE FROM t WHERE " + strings.Repeat("(", 21) + "a" + strings.Repeat(" BETWEEN 1 AND 2)", 21)
	fails(t, deep+" NOT @foo", api.ErrSyntax)
	fails(t, deep+" @foo", api.ErrSyntax)
	fails(t, deep+" IN (1) @(", api.ErrSyntax)
	fails(t, deep+" @BETWEEN", api.ErrLimit)
}
