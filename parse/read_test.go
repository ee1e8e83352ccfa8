package parse_test

import (
	"math"
	"strings"
	"testing"

	"consistory/api"
	"consistory/tree"
)

// reads holds what Parse makes of s against x, field by field.
func reads(t *testing.T, s string, x api.Stmt) {
	t.Helper()
	if got := statement(t, s); !equal(got, x) || !isBare(got) {
		t.Errorf("P10.1: %q:\n %+v, want\n %+v", s, got, x)
	}
	if !tree.Is(x) {
		t.Errorf("P10.3: %q: no statement", s)
	}
	readAgain(t, x)
}

func TestTables(t *testing.T) {
	plain, primary := api.Key{Unique: true}, api.Key{Unique: true, Primary: true}
	a, b := api.Column{Name: "a", Type: api.Int}, api.Column{Name: "b", Type: api.Text}
	sure := api.Column{Name: "a", Type: api.Int, NotNull: true}
	for _, c := range []struct {
		s       string
		cols    []api.Column
		keys    []api.Key
		keyCols [][]string
	}{
		{"a INT", []api.Column{a}, nil, nil},
		{"A int, B text, c BOOL", []api.Column{a, b, {Name: "c", Type: api.Bool}}, nil, nil},
		{"a INT NOT NULL", []api.Column{sure}, nil, nil},
		{"a INT PRIMARY KEY", []api.Column{a}, []api.Key{primary}, [][]string{{"a"}}},
		{"a INT UNIQUE", []api.Column{a}, []api.Key{plain}, [][]string{{"a"}}},
		{"a INT NOT NULL PRIMARY KEY", []api.Column{sure}, []api.Key{primary}, [][]string{{"a"}}},
		{"a INT NOT NULL UNIQUE", []api.Column{sure}, []api.Key{plain}, [][]string{{"a"}}},
		{"a INT PRIMARY KEY UNIQUE", []api.Column{a}, []api.Key{primary, plain}, [][]string{{"a"}, {"a"}}},
		{"a INT NOT NULL PRIMARY KEY UNIQUE, b TEXT", []api.Column{sure, b}, []api.Key{primary, plain}, [][]string{{"a"}, {"a"}}},
		{"a INT, PRIMARY KEY (a)", []api.Column{a}, []api.Key{primary}, [][]string{{"a"}}},
		{"a INT, UNIQUE (a, b, c)", []api.Column{a}, []api.Key{plain}, [][]string{{"a", "b", "c"}}},
		{"a INT UNIQUE, UNIQUE (b, a), b TEXT PRIMARY KEY, PRIMARY KEY (a)", []api.Column{a, b}, []api.Key{plain, plain, primary, primary}, [][]string{{"a"}, {"b", "a"}, {"b"}, {"a"}}},
		{"a INT, a INT, UNIQUE (z, z), UNIQUE (z, z)", []api.Column{a, a}, []api.Key{plain, plain}, [][]string{{"z", "z"}, {"z", "z"}}},
	} {
		reads(t, "CREATE TABLE t ("+c.s+")", api.Stmt{Kind: api.SCreate, Table: api.Table{Name: "t", Cols: c.cols, Keys: c.keys}, KeyCols: c.keyCols})
	}
}

func TestStatements(t *testing.T) {
	a, b := col("a"), col("b")
	for _, c := range []struct {
		s string
		x api.Stmt
	}{
		{"CREATE INDEX i ON t (a)", api.Stmt{Kind: api.SIndex, Index: "i", Name: "t", Cols: []string{"a"}}},
		{"CREATE UNIQUE INDEX i ON t (a, b)", api.Stmt{Kind: api.SIndex, Index: "i", Name: "t", Cols: []string{"a", "b"}, Unique: true}},
		{"DROP TABLE t", api.Stmt{Kind: api.SDrop, Name: "t"}},
		{"DROP INDEX t", api.Stmt{Kind: api.SUnindex, Index: "t"}},
		{"INSERT INTO t VALUES (1)", api.Stmt{Kind: api.SInsert, Name: "t", Rows: [][]api.Expr{{number(1)}}}},
		{"INSERT INTO t (b, a) VALUES (1, 'x'), (a OR b), (NULL, 2)", api.Stmt{Kind: api.SInsert, Name: "t", Cols: []string{"b", "a"}, Rows: [][]api.Expr{{number(1), text("x")}, {binary(api.OOr, a, b)}, {null(), number(2)}}}},
		{"UPDATE t SET a = 1", api.Stmt{Kind: api.SUpdate, Name: "t", Sets: []api.Set{{Name: "a", Expr: number(1)}}}},
		{"UPDATE t SET a = b = a, b = NOT a WHERE a = b", api.Stmt{Kind: api.SUpdate, Name: "t", Sets: []api.Set{{Name: "a", Expr: binary(api.OEq, b, a)}, {Name: "b", Expr: unary(api.ONot, a)}}, Where: binary(api.OEq, a, b)}},
		{"DELETE FROM t", api.Stmt{Kind: api.SDelete, Name: "t"}},
		{"DELETE FROM t WHERE a", api.Stmt{Kind: api.SDelete, Name: "t", Where: a}},
		{" delete\n\tFrom T;\r", api.Stmt{Kind: api.SDelete, Name: "t"}},
		{"-- a\nDELETE--\nFROM t--;", api.Stmt{Kind: api.SDelete, Name: "t"}},
		{"DELETE FROM t ; -- b", api.Stmt{Kind: api.SDelete, Name: "t"}},
	} {
		reads(t, c.s, c.x)
	}
}

func TestQueries(t *testing.T) {
	a, b := col("a"), col("b")
	star := []api.Item{{Star: true}}
	from := []api.Source{{Name: "t"}}
	for _, c := range []struct {
		s string
		x api.Stmt
	}{
		{"SELECT * FROM t", api.Stmt{Items: star, From: from, Limit: -1}},
		{"SELECT DISTINCT * FROM t", api.Stmt{Distinct: true, Items: star, From: from, Limit: -1}},
		{"SELECT *, a, * FROM t", api.Stmt{Items: []api.Item{{Star: true}, {Expr: a}, {Star: true}}, From: from, Limit: -1}},
		{"SELECT a AS b, b, a * b AS c FROM t", api.Stmt{Items: []api.Item{{Expr: a, Name: "b"}, {Expr: b}, {Expr: binary(api.OMul, a, b), Name: "c"}}, From: from, Limit: -1}},
		{"SELECT * FROM t u", api.Stmt{Items: star, From: []api.Source{{Name: "t", Alias: "u"}}, Limit: -1}},
		{"SELECT * FROM t JOIN u ON a", api.Stmt{Items: star, From: []api.Source{{Name: "t"}, {Name: "u", On: a}}, Limit: -1}},
		{"SELECT * FROM t LEFT JOIN u v ON a JOIN t w ON b", api.Stmt{Items: star, From: []api.Source{{Name: "t"}, {Name: "u", Alias: "v", Left: true, On: a}, {Name: "t", Alias: "w", On: b}}, Limit: -1}},
		{"SELECT * FROM t x JOIN u ON a LEFT JOIN v ON b WHERE a", api.Stmt{Items: star, From: []api.Source{{Name: "t", Alias: "x"}, {Name: "u", On: a}, {Name: "v", Left: true, On: b}}, Where: a, Limit: -1}},
		{"SELECT * FROM t WHERE a", api.Stmt{Items: star, From: from, Where: a, Limit: -1}},
		{"SELECT * FROM t GROUP BY a", api.Stmt{Items: star, From: from, Group: []api.Expr{a}, Limit: -1}},
		{"SELECT * FROM t GROUP BY a, b", api.Stmt{Items: star, From: from, Group: []api.Expr{a, b}, Limit: -1}},
		{"SELECT * FROM t HAVING a", api.Stmt{Items: star, From: from, Having: a, Limit: -1}},
		{"SELECT * FROM t ORDER BY a", api.Stmt{Items: star, From: from, Order: []api.Order{{Expr: a}}, Limit: -1}},
		{"SELECT * FROM t ORDER BY a ASC, b DESC, b", api.Stmt{Items: star, From: from, Order: []api.Order{{Expr: a}, {Expr: b, Desc: true}, {Expr: b}}, Limit: -1}},
		{"SELECT * FROM t LIMIT 0", api.Stmt{Items: star, From: from}},
		{"SELECT * FROM t LIMIT 9223372036854775807", api.Stmt{Items: star, From: from, Limit: math.MaxInt64}},
		{"SELECT * FROM t LIMIT 0000000000000000000000000000005", api.Stmt{Items: star, From: from, Limit: 5}},
		{"SELECT * FROM t WHERE a GROUP BY b HAVING a ORDER BY b LIMIT 7;", api.Stmt{Items: star, From: from, Where: a, Group: []api.Expr{b}, Having: a, Order: []api.Order{{Expr: b}}, Limit: 7}},
		{"SELECT a FROM t WHERE b IS NOT NULL;", api.Stmt{Items: []api.Item{{Expr: a}}, From: from, Where: unary(api.ONotNull, b), Limit: -1}},
	} {
		c.x.Kind = api.SSelect
		reads(t, c.s, c.x)
	}
}

func TestExpressions(t *testing.T) {
	a, b, c, d := col("a"), col("b"), col("c"), col("d")
	one, two := number(1), number(2)
	between := func(x, low, high api.Expr) api.Expr {
		return binary(api.OAnd, binary(api.OGe, x, low), binary(api.OLe, x, high))
	}
	for _, w := range []struct {
		s string
		e api.Expr
	}{
		{"a", a}, {"A", a}, {"t.a", colOf("t", "a")}, {"T . A", colOf("t", "a")}, {strings.Repeat("N", 20), col(strings.Repeat("n", 20))},
		{"NULL", null()}, {"TRUE", truth(1)}, {"false", truth(0)}, {"'it''s'", text("it's")}, {"''", text("")}, {"'" + strings.Repeat("x", 40) + "'", text(strings.Repeat("x", 40))}, {"'\xff'", text("\xff")}, {"'NULL'", text("NULL")},
		{"0", number(0)}, {"007", number(7)}, {"9223372036854775807", number(math.MaxInt64)},
		{"-1", number(-1)}, {"- 1", number(-1)}, {"-\n--\n1", number(-1)}, {"-0", number(0)}, {"-9223372036854775808", number(math.MinInt64)}, {"-9223372036854775807", number(-math.MaxInt64)},
		{"- -1", unary(api.ONeg, number(-1))}, {"-(1)", unary(api.ONeg, one)}, {"-(-1)", unary(api.ONeg, number(-1))}, {"-a", unary(api.ONeg, a)}, {"- - a", unary(api.ONeg, unary(api.ONeg, a))}, {"- -9223372036854775808", unary(api.ONeg, number(math.MinInt64))}, {"- 'x'", unary(api.ONeg, text("x"))},
		{"a -1", binary(api.OSub, a, one)}, {"a - -1", binary(api.OSub, a, number(-1))}, {"a - - b", binary(api.OSub, a, unary(api.ONeg, b))}, {"-1 - -1", binary(api.OSub, number(-1), number(-1))}, {"a - 9223372036854775807", binary(api.OSub, a, number(math.MaxInt64))},
		{"-a * b", binary(api.OMul, unary(api.ONeg, a), b)}, {"-1 * 2", binary(api.OMul, number(-1), two)}, {"a * -b", binary(api.OMul, a, unary(api.ONeg, b))}, {"-a.b", unary(api.ONeg, colOf("a", "b"))},
		{"(a)", a}, {"((a))", a}, {"(a OR b) AND c", binary(api.OAnd, binary(api.OOr, a, b), c)},
		{"a = b", binary(api.OEq, a, b)}, {"a <> b", binary(api.ONe, a, b)}, {"a < b", binary(api.OLt, a, b)}, {"a <= b", binary(api.OLe, a, b)}, {"a > b", binary(api.OGt, a, b)}, {"a >= b", binary(api.OGe, a, b)},
		{"a + b", binary(api.OAdd, a, b)}, {"a - b", binary(api.OSub, a, b)}, {"a || b", binary(api.OCat, a, b)}, {"a * b", binary(api.OMul, a, b)}, {"a / b", binary(api.ODiv, a, b)}, {"a % b", binary(api.OMod, a, b)}, {"a AND b", binary(api.OAnd, a, b)}, {"a OR b", binary(api.OOr, a, b)},
		{"a - b + c || d", binary(api.OCat, binary(api.OAdd, binary(api.OSub, a, b), c), d)}, {"a - (b - c)", binary(api.OSub, a, binary(api.OSub, b, c))}, {"a / b * c % d", binary(api.OMod, binary(api.OMul, binary(api.ODiv, a, b), c), d)},
		{"a OR b OR c", binary(api.OOr, binary(api.OOr, a, b), c)}, {"a AND b AND c", binary(api.OAnd, binary(api.OAnd, a, b), c)}, {"a OR b AND c OR d", binary(api.OOr, binary(api.OOr, a, binary(api.OAnd, b, c)), d)},
		{"a + b * c", binary(api.OAdd, a, binary(api.OMul, b, c))}, {"a * b + c", binary(api.OAdd, binary(api.OMul, a, b), c)}, {"a + b = c || d", binary(api.OEq, binary(api.OAdd, a, b), binary(api.OCat, c, d))}, {"a = b AND c < d", binary(api.OAnd, binary(api.OEq, a, b), binary(api.OLt, c, d))}, {"(a = b) = c", binary(api.OEq, binary(api.OEq, a, b), c)},
		{"NOT a", unary(api.ONot, a)}, {"NOT NOT a", unary(api.ONot, unary(api.ONot, a))}, {"NOT a = b", unary(api.ONot, binary(api.OEq, a, b))}, {"NOT a AND b", binary(api.OAnd, unary(api.ONot, a), b)}, {"a AND NOT b OR c", binary(api.OOr, binary(api.OAnd, a, unary(api.ONot, b)), c)}, {"NOT a IN (b)", unary(api.ONot, isIn(a, b))}, {"NOT (a AND b)", unary(api.ONot, binary(api.OAnd, a, b))},
		{"a IS NULL", unary(api.OIsNull, a)}, {"a IS NOT NULL", unary(api.ONotNull, a)}, {"a + 1 IS NULL", unary(api.OIsNull, binary(api.OAdd, a, one))}, {"NOT a IS NOT NULL", unary(api.ONot, unary(api.ONotNull, a))}, {"(a IS NULL) IS NULL", unary(api.OIsNull, unary(api.OIsNull, a))}, {"-a IS NULL", unary(api.OIsNull, unary(api.ONeg, a))},
		{"a IN (1)", isIn(a, one)}, {"a IN (1, b OR c, NULL)", isIn(a, one, binary(api.OOr, b, c), null())}, {"a NOT IN (1, 2)", unary(api.ONot, isIn(a, one, two))}, {"a * b IN (1)", isIn(binary(api.OMul, a, b), one)}, {"NOT a NOT IN (1)", unary(api.ONot, unary(api.ONot, isIn(a, one)))},
		{"a BETWEEN 1 AND 2", between(a, one, two)}, {"a NOT BETWEEN 1 AND 2", unary(api.ONot, between(a, one, two))}, {"a + b BETWEEN c * 1 AND - d", between(binary(api.OAdd, a, b), binary(api.OMul, c, one), unary(api.ONeg, d))}, {"a BETWEEN 1 AND 2 AND b", binary(api.OAnd, between(a, one, two), b)}, {"b AND a BETWEEN 1 AND 2", binary(api.OAnd, b, between(a, one, two))}, {"NOT a BETWEEN 1 AND 2 OR b", binary(api.OOr, unary(api.ONot, between(a, one, two)), b)}, {"(a BETWEEN 1 AND 2) BETWEEN c AND d", between(between(a, one, two), c, d)}, {"a BETWEEN (b BETWEEN 1 AND 2) AND d", between(a, between(b, one, two), d)},
		{"CASE WHEN a THEN b END", caseOf(a, b)}, {"CASE WHEN a THEN b ELSE c END", caseOf(a, b, c)}, {"CASE WHEN a OR b THEN c WHEN NOT a THEN 1 ELSE 2 END + 1", binary(api.OAdd, caseOf(binary(api.OOr, a, b), c, unary(api.ONot, a), one, two), one)}, {"CASE WHEN CASE WHEN a THEN b END THEN CASE WHEN c THEN d END ELSE CASE WHEN a THEN b ELSE c END END", caseOf(caseOf(a, b), caseOf(c, d), caseOf(a, b, c))},
		{"COUNT(*)", agg(api.ACount)}, {"count ( a )", agg(api.ACount, a)}, {"SUM(a)", agg(api.ASum, a)}, {"MIN(a OR b)", agg(api.AMin, binary(api.OOr, a, b))}, {"MAX(MIN(a))", agg(api.AMax, agg(api.AMin, a))}, {"COUNT(*) * 2", binary(api.OMul, agg(api.ACount), two)}, {"COUNT((a))", agg(api.ACount, a)},
	} {
		where := api.Stmt{Kind: api.SDelete, Name: "t", Where: w.e}
		reads(t, "DELETE FROM t WHERE "+w.s, where)
		reads(t, "DELETE FROM t WHERE ("+w.s+") ;", where)
		reads(t, "SELECT a FROM t JOIN t ON "+w.s+" WHERE "+w.s+" GROUP BY "+w.s+", "+w.s+" HAVING "+w.s+" ORDER BY "+w.s+" DESC, "+w.s, api.Stmt{Kind: api.SSelect, Items: []api.Item{{Expr: a}}, From: []api.Source{{Name: "t"}, {Name: "t", On: w.e}}, Where: w.e, Group: []api.Expr{w.e, w.e}, Having: w.e, Order: []api.Order{{Expr: w.e, Desc: true}, {Expr: w.e}}, Limit: -1})
		reads(t, "SELECT "+w.s+", "+w.s+" AS x FROM t", api.Stmt{Kind: api.SSelect, Items: []api.Item{{Expr: w.e}, {Expr: w.e, Name: "x"}}, From: []api.Source{{Name: "t"}}, Limit: -1})
		reads(t, "UPDATE t SET a = "+w.s+", b = "+w.s, api.Stmt{Kind: api.SUpdate, Name: "t", Sets: []api.Set{{Name: "a", Expr: w.e}, {Name: "b", Expr: w.e}}})
		reads(t, "INSERT INTO t VALUES ("+w.s+"), ("+w.s+", "+w.s+")", api.Stmt{Kind: api.SInsert, Name: "t", Rows: [][]api.Expr{{w.e}, {w.e, w.e}}})
	}
}

// TestWordsAreNoNames: a word stands nowhere where a name does, a name that begins like one does.
func TestWordsAreNoNames(t *testing.T) {
	for _, s := range []string{"DELETE FROM @", "DROP INDEX @", "UPDATE @ SET a = 1", "UPDATE t SET @ = 1", "CREATE TABLE @ (a INT)", "CREATE TABLE t (@ INT)", "CREATE INDEX @ ON t (a)", "CREATE INDEX i ON @ (a)", "CREATE INDEX i ON t (@)", "SELECT a AS @ FROM t", "SELECT a FROM @", "SELECT a.@ FROM t", "INSERT INTO t (@) VALUES (1)"} {
		at := strings.Index(s, "@")
		for _, word := range []string{"SELECT", "key", "Int", "COUNT", "values"} {
			if got := told(t, strings.ReplaceAll(s, "@", word)); got != wrong(api.ErrSyntax, at) {
				t.Errorf("P10.1: %q with %s: %s", s, word, got)
			}
			if got := told(t, strings.ReplaceAll(s, "@", word+"1")); strings.HasPrefix(got, "class") {
				t.Errorf("P10.1: %q with %s1: %s", s, word, got)
			}
		}
	}
}
