package tree_test

import (
	"math"
	"strings"
	"testing"

	"consistory/api"
	"consistory/tree"
)

func TestExprIsWritten(t *testing.T) {
	a, b := col("a"), col("b")
	for _, c := range []struct {
		e    api.Expr
		want string
	}{
		{null(), "NULL"}, {truth(1), "TRUE"}, {truth(0), "FALSE"}, {number(0), "0"}, {number(-1), "-1"},
		{number(math.MaxInt64), "9223372036854775807"}, {number(math.MinInt64), "-9223372036854775808"},
		{text(""), "''"}, {text("it's"), "'it''s'"}, {text("a\nb"), "'a\nb'"},
		{a, "a"}, {colOf("t", "a"), "t.a"},
		{unary(api.ONeg, a), "- a"}, {unary(api.ONot, a), "NOT a"}, {unary(api.OIsNull, a), "a IS NULL"}, {unary(api.ONotNull, a), "a IS NOT NULL"},
		{binary(api.OEq, a, b), "a = b"}, {binary(api.ONe, a, b), "a <> b"}, {binary(api.OLt, a, b), "a < b"}, {binary(api.OLe, a, b), "a <= b"},
		{binary(api.OGt, a, b), "a > b"}, {binary(api.OGe, a, b), "a >= b"}, {binary(api.OAdd, a, b), "a + b"}, {binary(api.OSub, a, b), "a - b"},
		{binary(api.OMul, a, b), "a * b"}, {binary(api.ODiv, a, b), "a / b"}, {binary(api.OMod, a, b), "a % b"}, {binary(api.OCat, a, b), "a || b"},
		{binary(api.OAnd, a, b), "a AND b"}, {binary(api.OOr, a, b), "a OR b"},
		{isIn(a, b), "a IN (b)"}, {isIn(a, number(1), b), "a IN (1, b)"},
		{caseOf(a, b), "CASE WHEN a THEN b END"}, {caseOf(a, b, number(1)), "CASE WHEN a THEN b ELSE 1 END"},
		{caseOf(a, b, b, a), "CASE WHEN a THEN b WHEN b THEN a END"}, {caseOf(a, b, b, a, null()), "CASE WHEN a THEN b WHEN b THEN a ELSE NULL END"},
		{agg(api.ACount), "COUNT(*)"}, {agg(api.ACount, a), "COUNT(a)"}, {agg(api.ASum, a), "SUM(a)"}, {agg(api.AMin, a), "MIN(a)"}, {agg(api.AMax, a), "MAX(a)"},
		// the chapter's examples
		{binary(api.OMul, binary(api.OAdd, a, number(1)), unary(api.ONeg, b)), "(a + 1) * (- b)"},
		{unary(api.ONot, binary(api.OEq, a, number(1))), "NOT (a = 1)"},
		// brackets, and none
		{unary(api.ONeg, number(0)), "- (0)"}, {unary(api.ONeg, number(7)), "- (7)"}, {unary(api.ONeg, number(-7)), "- (-7)"},
		{unary(api.ONot, number(7)), "NOT 7"}, {unary(api.ONot, number(-7)), "NOT (-7)"}, {unary(api.OIsNull, number(-7)), "(-7) IS NULL"}, {unary(api.ONotNull, number(7)), "7 IS NOT NULL"},
		{unary(api.ONeg, truth(1)), "- TRUE"}, {unary(api.ONeg, text("1")), "- '1'"}, {unary(api.ONeg, null()), "- NULL"}, {unary(api.ONeg, colOf("t", "a")), "- t.a"},
		{unary(api.ONeg, unary(api.ONeg, number(1))), "- (- (1))"}, {unary(api.ONot, unary(api.ONot, a)), "NOT (NOT a)"},
		{unary(api.OIsNull, unary(api.ONotNull, a)), "(a IS NOT NULL) IS NULL"},
		{binary(api.OSub, number(-1), number(-2)), "(-1) - (-2)"}, {binary(api.OSub, number(1), number(0)), "1 - 0"},
		{binary(api.OAnd, isIn(a, b), unary(api.ONot, b)), "(a IN (b)) AND (NOT b)"},
		{binary(api.OOr, binary(api.OOr, a, b), b), "(a OR b) OR b"},
		{binary(api.OAdd, caseOf(a, b), agg(api.ASum, a)), "CASE WHEN a THEN b END + SUM(a)"},
		{unary(api.ONeg, caseOf(a, b)), "- CASE WHEN a THEN b END"}, {unary(api.ONot, agg(api.ACount)), "NOT COUNT(*)"},
		{isIn(number(-1), number(-1)), "(-1) IN (-1)"}, {isIn(isIn(a, b), isIn(a, b)), "(a IN (b)) IN (a IN (b))"},
		{isIn(binary(api.OCat, a, b), binary(api.OCat, a, b), unary(api.ONeg, a)), "(a || b) IN (a || b, - a)"},
		{caseOf(unary(api.ONot, a), number(-1), binary(api.OEq, a, b), isIn(a, b), unary(api.ONeg, number(1))), "CASE WHEN NOT a THEN -1 WHEN a = b THEN a IN (b) ELSE - (1) END"},
		{agg(api.ASum, number(-1)), "SUM(-1)"}, {agg(api.AMax, binary(api.OMod, a, number(2))), "MAX(a % 2)"}, {agg(api.ACount, unary(api.ONeg, a)), "COUNT(- a)"}, {agg(api.AMin, isIn(a, b)), "MIN(a IN (b))"},
	} {
		if got, err := tree.Expr(c.e); got != c.want || err != nil {
			t.Errorf("P9.4: %s, %v, want %s", got, err, c.want)
		}
		holdsExpr(t, "P9.1: "+c.want, c.e, true)
	}
}

// TestOperatorsAndArguments goes through all kinds with all operators and all numbers of arguments.
func TestOperatorsAndArguments(t *testing.T) {
	right := 0
	for kind := -1; kind <= 9; kind++ {
		for op := -1; op <= 24; op++ {
			for n := 0; n <= 23; n++ {
				e := api.Expr{Kind: kind, Op: op, Args: many(n, col("a"))}
				if kind == api.ECol {
					e.Name = "a"
				}
				want := modelIsExpr(e)
				if holdsExpr(t, "P9.1", e, want); want {
					right++
				}
			}
		}
	}
	// a value, a column, 4 operators of one, 14 of two, 10 numbers of IN's, 20 of CASE's, 5 aggregates
	if right != 1+1+4+14+10+20+5 {
		t.Errorf("P9.1: %d may be", right)
	}
}

func TestNamesOfColumns(t *testing.T) {
	for s, right := range map[string]bool{
		"a": true, "_": true, "a9": true, "selects": true, strings.Repeat("a", 20): true,
		strings.Repeat("a", 21): false, "": false, "A": false, "aB": false, "9": false, "9a": false, "select": false, "SELECT": false, "where": false, "a b": false, " a": false, "a ": false, "a.b": false, "é": false, "a\x00": false, "'a'": false, "*": false, "--a": false,
	} {
		holdsExpr(t, "P9.1: name", col(s), right)
		holdsExpr(t, "P9.1: name", colOf("t", s), right)
		holdsExpr(t, "P9.1: table", colOf(s, "a"), right || s == "")
	}
}

func TestValuesThatMayBe(t *testing.T) {
	value := func(kind int, n int64, s string) api.Expr {
		return api.Expr{Kind: api.EValue, Value: api.Value{Kind: kind, Int: n, Text: s}}
	}
	long := strings.Repeat("x", 40)
	for _, e := range []api.Expr{value(0, 0, ""), value(1, 0, ""), value(1, 1, ""), value(2, math.MinInt64, ""), value(2, math.MaxInt64, ""), value(3, 0, ""), value(3, 0, long), value(3, 0, "\xff\x01")} {
		holdsExpr(t, "P9.1: value", e, true)
	}
	for _, e := range []api.Expr{value(0, 1, ""), value(0, 0, "a"), value(1, 2, ""), value(1, -1, ""), value(1, 0, "a"), value(2, 1, "a"), value(3, 1, "a"), value(3, 0, long+"x"), value(3, 0, "a\x00"), value(4, 0, ""), value(-1, 0, "")} {
		holdsExpr(t, "P9.1: value", e, false)
	}
}

// TestFieldsThatAreNotNamed: each kind with something in each field that it has no use for; and with lists that are empty, not nil.
func TestFieldsThatAreNotNamed(t *testing.T) {
	a := col("a")
	for _, e := range []api.Expr{number(1), a, colOf("t", "a"), unary(api.ONot, a), binary(api.OAdd, a, a), isIn(a, a), caseOf(a, a), agg(api.ACount), agg(api.AMax, a)} {
		isLeaf := e.Kind == api.EValue || e.Kind == api.ECol
		hasOp := e.Kind == api.EUnary || e.Kind == api.EBinary || e.Kind == api.EAgg
		for _, c := range []struct {
			field  string
			change func(e *api.Expr)
			right  bool
		}{
			{"none", func(e *api.Expr) {}, true},
			{"At", func(e *api.Expr) { e.At = 1 }, false},
			{"At", func(e *api.Expr) { e.At = -1 }, false},
			{"Type", func(e *api.Expr) { e.Type = 2 }, false},
			{"Type", func(e *api.Expr) { e.Type = -1 }, false},
			{"Table", func(e *api.Expr) { e.Table = "t" }, e.Kind == api.ECol},
			{"Name", func(e *api.Expr) { e.Name = "b" }, e.Kind == api.ECol},
			{"Value.Kind", func(e *api.Expr) { e.Value.Kind = api.Int }, e.Kind == api.EValue},
			{"Value.Int", func(e *api.Expr) { e.Value.Int = 1 }, e.Kind == api.EValue},
			{"Value.Text", func(e *api.Expr) { e.Value.Text = "x" }, false},
			{"Op", func(e *api.Expr) { e.Op = api.ONot }, e.Kind == api.EUnary},
			{"Op", func(e *api.Expr) { e.Op = 0 }, !hasOp},
			{"Args", func(e *api.Expr) { e.Args = []api.Expr{a} }, e.Kind == api.EUnary || e.Kind == api.EAgg},
			{"Args", func(e *api.Expr) { e.Args = []api.Expr{} }, isLeaf || e.Op == api.ACount},
			{"Kind", func(e *api.Expr) { e.Kind = 0 }, false},
			{"Kind", func(e *api.Expr) { e.Kind = 8 }, false},
			{"Kind", func(e *api.Expr) { e.Kind = -1 }, false},
		} {
			other := e
			c.change(&other)
			holdsExpr(t, "P9.1: "+c.field, other, c.right)
		}
	}
	holdsExpr(t, "P9.1: nothing", api.Expr{}, false)
}

// TestArgumentsAreAsked: one that may not be, at each place of each kind, and deeper.
func TestArgumentsAreAsked(t *testing.T) {
	a := col("a")
	for _, e := range []api.Expr{unary(api.ONeg, a), binary(api.OCat, a, a), isIn(many(11, a)...), caseOf(many(21, a)...), agg(api.ACount, a), agg(api.ASum, a)} {
		for i := range e.Args {
			for _, wrong := range []api.Expr{{}, col("A"), {Kind: api.ECol, Name: "a", At: 1}, {Kind: api.EValue, Type: 1}, unary(api.OEq, a), isIn(a), agg(api.ASum)} {
				other := deepCopy(e)
				other.Args[i] = wrong
				holdsExpr(t, "P9.1: an argument", other, false)
				other.Args[i] = binary(api.OAdd, a, caseOf(a, unary(api.ONeg, wrong)))
				holdsExpr(t, "P9.1: an argument's argument", other, false)
			}
		}
	}
}

// smallExprs tells all expressions over a few leaves that have parts of at most one operator.
func smallExprs() []api.Expr {
	leaves := []api.Expr{col("a"), colOf("t", "b"), null(), truth(1), number(0), number(3), number(-3), number(math.MinInt64), text("-1"), agg(api.ACount)}
	parts := append(leaves, around(leaves, col("a"))...)
	return append(parts, around(parts, number(-1))...)
}

// around puts each part at each place of each operator, the others filled with another one.
func around(parts []api.Expr, other api.Expr) []api.Expr {
	var out []api.Expr
	for _, e := range parts {
		for op := api.ONeg; op <= api.ONotNull; op++ {
			out = append(out, unary(op, e))
		}
		for op := api.OEq; op <= api.OOr; op++ {
			out = append(out, binary(op, e, other), binary(op, other, e))
		}
		for op := api.ACount; op <= api.AMax; op++ {
			out = append(out, agg(op, e))
		}
		out = append(out, isIn(e, other), isIn(other, e), isIn(other, other, e), caseOf(e, other), caseOf(other, e), caseOf(other, other, e), caseOf(other, other, e, other), caseOf(other, other, other, e))
	}
	return out
}

func TestSmallExprs(t *testing.T) {
	for _, e := range smallExprs() {
		got, err := tree.Expr(e)
		if want := modelExpr(e); got != want || err != nil {
			t.Fatalf("P9.4: %s, %v, want %s", got, err, want)
		}
		x := query(e)
		if s := printed(t, x); s != "SELECT "+got+" FROM t" {
			t.Fatalf("P9.3: %s of %s", s, got)
		}
		readAgain(t, x)
	}
}

// readAgain: a statement that is printed is the same, and as deep, once it is read.
func readAgain(t *testing.T, x api.Stmt) {
	t.Helper()
	s := printed(t, x)
	got, deep, err := read(s)
	if err != nil || !equal(got, x) {
		t.Fatalf("P9.6: %s: read as %+v, %v, was %+v", s, got, err, x)
	}
	if d := tree.Depth(x); d != deep {
		t.Fatalf("P9.5: Depth: %d of %s, want %d", d, s, deep)
	}
}
