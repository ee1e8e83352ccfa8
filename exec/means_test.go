package exec_test

import (
	"fmt"
	"strings"
	"testing"

	"consistory/api"
	"consistory/table"
)

// TestJoins: P16.1: step 1.
func TestJoins(t *testing.T) {
	questions{
		{"SELECT a FROM t", "a: 1, 2, 3, 4"},
		{"SELECT z FROM e", "z: "},
		{"SELECT a, w FROM t JOIN u ON a = k", "a w: 1 10, 1 20"},
		{"SELECT a, w FROM t JOIN u ON TRUE", "a w: 1 0, 1 1, 1 10, 1 20, 2 0, 2 1, 2 10, 2 20, 3 0, 3 1, 3 10, 3 20, 4 0, 4 1, 4 10, 4 20"},
		{"SELECT a, w FROM t JOIN u ON FALSE", "a w: "},
		{"SELECT a, w FROM t JOIN u ON NULL", "a w: "},
		{"SELECT a, w FROM t LEFT JOIN u ON a = k", "a w: 1 10, 1 20, 2 NULL, 3 NULL, 4 NULL"},
		{"SELECT a, k, w FROM t LEFT JOIN u ON a = k AND w > 10", "a k w: 1 1 20, 2 NULL NULL, 3 NULL NULL, 4 NULL NULL"},
		{"SELECT a, w FROM t LEFT JOIN u ON NULL", "a w: 1 NULL, 2 NULL, 3 NULL, 4 NULL"},
		{"SELECT t.k, w FROM u t", "k w: 1 10, 1 20, 7 0, NULL 1"},
		{"SELECT t.w, u.b, e.b FROM u t JOIN t u ON k = a JOIN t e ON e.a = 2", "w b b: 10 5 0, 20 5 0"},
		{"SELECT k, s FROM u LEFT JOIN t ON k = a", "k s: 1 'x', 1 'x', 7 NULL, NULL NULL"},
		{"SELECT a, z, y FROM t LEFT JOIN e ON TRUE", "a z y: 1 NULL NULL, 2 NULL NULL, 3 NULL NULL, 4 NULL NULL"},
		{"SELECT a FROM t JOIN e ON TRUE", "a: "},
		{"SELECT z FROM e LEFT JOIN t ON TRUE", "z: "},
		{"SELECT t.a, o.a FROM t JOIN t o ON t.b = o.b AND t.a < o.a", "a a: 1 4"},
		{"SELECT t.a, u.w, o.a FROM t JOIN u ON a = k JOIN t o ON o.a * 10 = w", "a w a: 1 10 1, 1 20 2"},
		{"SELECT t.a, w, o.a FROM t LEFT JOIN u ON a = k LEFT JOIN t o ON o.a * 20 = w", "a w a: 1 10 NULL, 1 20 1, 2 NULL NULL, 3 NULL NULL, 4 NULL NULL"},
		{"SELECT t.a, w, z FROM t LEFT JOIN u ON a = k JOIN e ON TRUE", "a w z: "},
		{"SELECT t.a, w, o.a FROM t LEFT JOIN u ON FALSE JOIN t o ON w IS NULL AND o.a = t.a", "a w a: 1 NULL 1, 2 NULL 2, 3 NULL 3, 4 NULL 4"},
		{"SELECT n, w FROM g JOIN u ON CASE WHEN n = 0 THEN TRUE ELSE 1 / n = w END", "n w: -9223372036854775808 0, 0 0, 0 1, 0 10, 0 20, 1 1, 2 0, 9223372036854775807 0"},
	}.ask(t, "P16.1")
}

// TestWhere: P16.1: step 2.
func TestWhere(t *testing.T) {
	questions{
		{"SELECT a FROM t WHERE b = 5", "a: 1, 4"},
		{"SELECT a FROM t WHERE b <> 5", "a: 2"},
		{"SELECT a FROM t WHERE p", "a: 1, 4"},
		{"SELECT a FROM t WHERE NOT p", "a: 2"},
		{"SELECT a FROM t WHERE p IS NULL", "a: 3"},
		{"SELECT a FROM t WHERE NULL", "a: "},
		{"SELECT a FROM t WHERE TRUE", "a: 1, 2, 3, 4"},
		{"SELECT a, w FROM t LEFT JOIN u ON a = k WHERE w IS NULL", "a w: 2 NULL, 3 NULL, 4 NULL"},
		{"SELECT a, w FROM t JOIN u ON TRUE WHERE a = k AND w > b * 2", "a w: 1 20"},
		{"SELECT 10 / b FROM t WHERE b > 0", "col1: 2, 2"},
		{"SELECT a FROM t WHERE b = 0 OR 10 / b = 2", "a: 1, 2, 4"},
	}.ask(t, "P16.1")
}

// TestGroups: P16.1: step 3.
func TestGroups(t *testing.T) {
	questions{
		{"SELECT b, COUNT(*) FROM t GROUP BY b", "b col2: 0 1, 5 2, NULL 1"},
		{"SELECT s, COUNT(*), SUM(a), MIN(a), MAX(a), COUNT(b) FROM t GROUP BY s", "s col2 col3 col4 col5 col6: 'x' 2 4 1 3 1, 'y' 1 2 2 2 1, NULL 1 4 4 4 1"},
		{"SELECT b, s, COUNT(*) FROM t GROUP BY s, b", "b s col3: 0 'y' 1, 5 'x' 1, 5 NULL 1, NULL 'x' 1"},
		{"SELECT p, b, SUM(a) FROM t GROUP BY b, p", "p b col3: FALSE 0 2, NULL NULL 3, TRUE 5 5"},
		{"SELECT COUNT(*) FROM t GROUP BY b", "col1: 1, 1, 2"},
		{"SELECT b FROM t GROUP BY b", "b: 0, 5, NULL"},
		{"SELECT b + 1, b FROM t GROUP BY b", "col1 b: 1 0, 6 5, NULL NULL"},
		{"SELECT b, b FROM t GROUP BY b, b", "b b: 0 0, 5 5, NULL NULL"},
		{"SELECT b FROM t WHERE FALSE GROUP BY b", "b: "},
		{"SELECT COUNT(*) FROM t WHERE FALSE GROUP BY b", "col1: "},
		{"SELECT z, COUNT(*) FROM e GROUP BY z", "z col2: "},
		{"SELECT COUNT(*) FROM t", "col1: 4"},
		{"SELECT COUNT(*) FROM e", "col1: 0"},
		{"SELECT COUNT(*), COUNT(z), SUM(z), MIN(y), MAX(z) FROM e", "col1 col2 col3 col4 col5: 0 0 NULL NULL NULL"},
		{"SELECT COUNT(*) FROM t WHERE FALSE", "col1: 0"},
		{"SELECT 1 + COUNT(b) * 2 FROM t", "col1: 7"},
		{"SELECT 1 FROM t HAVING TRUE", "col1: 1"},
		{"SELECT 1 FROM e HAVING TRUE", "col1: 1"},
		{"SELECT 1 FROM t HAVING FALSE", "col1: "},
		{"SELECT 1 FROM t HAVING NULL", "col1: "},
		{"SELECT 1 FROM e HAVING COUNT(*) = 0", "col1: 1"},
		{"SELECT 1 FROM t ORDER BY COUNT(*)", "col1: 1"},
		{"SELECT 'x' FROM e ORDER BY SUM(z) + 1", "col1: 'x'"},
		{"SELECT CASE WHEN MAX(a) > 3 THEN 'many' ELSE 'few' END FROM t", "col1: 'many'"},
		{"SELECT 1 IN (0, COUNT(*) - 3) FROM t", "col1: TRUE"},
		{"SELECT COUNT(*) IS NULL FROM e", "col1: FALSE"},
		{"SELECT b FROM t GROUP BY b HAVING COUNT(*) > 1", "b: 5"},
		{"SELECT b FROM t GROUP BY b HAVING b", "class 4"},
		{"SELECT p FROM t GROUP BY p HAVING p", "p: TRUE"},
		{"SELECT p FROM t GROUP BY p HAVING NOT p", "p: FALSE"},
		{"SELECT b, SUM(a) FROM t WHERE a <> 1 GROUP BY b HAVING MAX(s) IS NULL OR b = 0", "b col2: 0 2, 5 4"},
		{"SELECT k, COUNT(a) FROM u LEFT JOIN t ON k = a GROUP BY k", "k col2: 1 2, 7 0, NULL 0"},
		{"SELECT t.b, COUNT(*) FROM t JOIN u ON TRUE WHERE w > 0 GROUP BY t.b", "b col2: 0 3, 5 6, NULL 3"},
		{"SELECT 10 / b FROM t GROUP BY b HAVING b > 0", "col1: 2"},
	}.ask(t, "P16.1")
}

// TestDistinct: P16.1: step 5.
func TestDistinct(t *testing.T) {
	questions{
		{"SELECT DISTINCT s FROM t", "s: 'x', 'y', NULL"},
		{"SELECT DISTINCT b, p FROM t", "b p: 0 FALSE, 5 TRUE, NULL NULL"},
		{"SELECT DISTINCT k, w FROM u", "k w: 1 10, 1 20, 7 0, NULL 1"},
		{"SELECT DISTINCT 1 FROM t", "col1: 1"},
		{"SELECT DISTINCT 1 FROM e", "col1: "},
		{"SELECT DISTINCT NULL FROM t", "col1: NULL"},
		{"SELECT DISTINCT a % 2 FROM t", "col1: 0, 1"},
		{"SELECT DISTINCT COUNT(*) FROM t GROUP BY b", "col1: 1, 2"},
		{"SELECT DISTINCT t.b FROM t JOIN u ON TRUE", "b: 0, 5, NULL"},
		{"SELECT DISTINCT s FROM t LIMIT 3", "s: 'x', 'y', NULL"},
		{"SELECT DISTINCT s FROM t LIMIT 4", "s: 'x', 'y', NULL"},
		{"SELECT DISTINCT s FROM t ORDER BY s LIMIT 2", "s: NULL, 'x'"},
		{"SELECT DISTINCT b, s FROM t ORDER BY s DESC, b", "b s: 0 'y', NULL 'x', 5 'x', 5 NULL"},
		{"SELECT DISTINCT b FROM t ORDER BY b DESC", "b: 5, 0, NULL"},
		{"SELECT DISTINCT COUNT(*) FROM t GROUP BY b ORDER BY COUNT(*) DESC", "col1: 2, 1"},
	}.ask(t, "P16.1")
}

// TestOrder: P16.1: step 6.
func TestOrder(t *testing.T) {
	questions{
		{"SELECT a FROM t ORDER BY a", "a: 1, 2, 3, 4"},
		{"SELECT a FROM t ORDER BY a DESC", "a: 4, 3, 2, 1"},
		{"SELECT a FROM t ORDER BY - a", "a: 4, 3, 2, 1"},
		{"SELECT b FROM t ORDER BY b", "b: NULL, 0, 5, 5"},
		{"SELECT b FROM t ORDER BY b DESC", "b: 5, 5, 0, NULL"},
		{"SELECT p FROM t ORDER BY p", "p: NULL, FALSE, TRUE, TRUE"},
		{"SELECT s FROM t ORDER BY s DESC", "s: 'y', 'x', 'x', NULL"},
		{"SELECT a FROM t ORDER BY b, a", "a: 3, 2, 1, 4"},
		{"SELECT a FROM t ORDER BY b, a DESC", "a: 3, 2, 4, 1"},
		{"SELECT a FROM t ORDER BY b DESC, a", "a: 1, 4, 2, 3"},
		{"SELECT a FROM t ORDER BY b DESC, a DESC", "a: 4, 1, 2, 3"},
		{"SELECT a FROM t ORDER BY s, b DESC", "a: 4, 1, 3, 2"},
		{"SELECT n FROM g ORDER BY n", "n: -9223372036854775808, 0, 1, 2, 9223372036854775807"},
		{"SELECT s FROM t ORDER BY a % 2, a", "s: 'y', NULL, 'x', 'x'"},
		{"SELECT b FROM t GROUP BY b ORDER BY COUNT(*) DESC, b", "b: 5, NULL, 0"},
		{"SELECT SUM(a) FROM t GROUP BY s ORDER BY s", "col1: 4, 4, 2"},
		{"SELECT a, w FROM t JOIN u ON TRUE WHERE a < 3 AND w > 5 ORDER BY w DESC, a", "a w: 1 20, 2 20, 1 10, 2 10"},
		{"SELECT a FROM t ORDER BY a LIMIT 0", "a: "},
		{"SELECT a FROM t ORDER BY a LIMIT 1", "a: 1"},
		{"SELECT a FROM t ORDER BY a LIMIT 3", "a: 1, 2, 3"},
		{"SELECT a FROM t ORDER BY a LIMIT 4", "a: 1, 2, 3, 4"},
		{"SELECT a FROM t ORDER BY a LIMIT 5", "a: 1, 2, 3, 4"},
		{"SELECT a FROM t ORDER BY a LIMIT 9223372036854775807", "a: 1, 2, 3, 4"},
		{"SELECT COUNT(*) FROM t LIMIT 0", "col1: "},
		{"SELECT COUNT(*) FROM t LIMIT 1", "col1: 4"},
	}.ask(t, "P16.1")
}

// TestLimitWithoutOrder: which rows are left out isn't said, but how many.
func TestLimitWithoutOrder(t *testing.T) {
	for n := range 7 {
		a, c := query(t, store(t), statement(t, fmt.Sprint("SELECT a FROM t LIMIT ", n)))
		if c != 0 || len(a.Rows) != min(n, 4) {
			t.Errorf("P16.1: LIMIT %d: class %d, %d rows", n, c, len(a.Rows))
		}
	}
}

// TestWhatColumnsAreCalled: P16.1: also of an answer without rows.
func TestWhatColumnsAreCalled(t *testing.T) {
	for sql, want := range map[string]string{
		"SELECT * FROM t":                                     "a b s p",
		"SELECT * FROM e":                                     "z y",
		"SELECT t.b, a AS b, s FROM t":                        "b b s",
		"SELECT a AS n, a + 1, s, 'x', NULL AS m, - a FROM t": "n col2 s col4 m col6",
		"SELECT COUNT(*), COUNT(*) AS n, b FROM t GROUP BY b": "col1 n b",
		"SELECT *, a + 1, * FROM e JOIN t ON TRUE":            "z y a b s p col7 z y a b s p",
		"SELECT x.a, y.a, 1 FROM t x JOIN t y ON x.a = y.a":   "a a col3",
		"SELECT CASE WHEN p THEN a END, a IN (b), (a) FROM t": "col1 col2 a",
		"SELECT a AS col9, b AS a FROM t LIMIT 0":             "col9 a",
		"SELECT b AS n FROM t WHERE FALSE GROUP BY b":         "n",
		"SELECT *, *, *, *, t.a, 1 FROM t":                    "a b s p a b s p a b s p a b s p a col18",
		"SELECT 1, 2, 3, 4, 5, 6, 7, 8, 9, 10 FROM e":         "col1 col2 col3 col4 col5 col6 col7 col8 col9 col10",
		"SELECT MAX(a), b, MIN(a) AS least FROM t GROUP BY b": "col1 b least",
		"SELECT o.k, o.w, a FROM t LEFT JOIN u o ON a = o.k":  "k w a",
	} {
		x := statement(t, sql)
		a, c := query(t, store(t), x)
		if got := strings.Join(a.Cols, " "); c != 0 || got != want {
			t.Errorf("P16.1: %s: class %d, %s, want %s", sql, c, got, want)
		}
		hold(t, store(t), x)
	}
}

// TestExamples: the chapter's.
func TestExamples(t *testing.T) {
	none := filled(t, "CREATE TABLE t (a INT)")
	a, c := query(t, none, statement(t, "SELECT COUNT(*) FROM t"))
	if got := say(a, c, true); got != "col1: 0" {
		t.Errorf("P16.1: %s", got)
	}
	x := statement(t, "SELECT 1 / a FROM t LIMIT 0")
	a, c = query(t, none, x)
	if got := say(a, c, true); got != "col1: " {
		t.Errorf("P16.1: %s", got)
	}
	_, c = query(t, filled(t, "CREATE TABLE t (a INT)", "INSERT INTO t VALUES (0)"), x)
	if c != api.ErrZero {
		t.Errorf("P16.1: class %d", c)
	}
}

// sized tells a store of tables a, b and c with so many rows: numbers from 0 on.
func sized(t *testing.T, counts ...int) *table.Store {
	t.Helper()
	x := filled(t, "CREATE TABLE a (i INT)", "CREATE TABLE b (j INT)", "CREATE TABLE c (k INT)", "CREATE INDEX l ON a (i)")
	for n, count := range counts {
		var made [][]api.Value
		for i := range count {
			made = append(made, []api.Value{integer(int64(i))})
		}
		if err := x.Write(n, nil, nil, made); err != nil {
			t.Fatal(err)
		}
	}
	return x
}

// TestTooMuch: P16.1: at MaxPairs, and at the least number above it that three tables make; whatever way, whatever else.
func TestTooMuch(t *testing.T) {
	const all = "SELECT COUNT(*) FROM a JOIN b ON TRUE JOIN c ON TRUE"
	none := api.Way{Key: 0, Eq: []api.Value{integer(-1)}}
	for _, c := range []struct {
		counts []int
		sql    string
		want   string
	}{
		{[]int{50, 40, 10}, all, "col1: 20000"},
		{[]int{10, 50, 40}, all, "col1: 20000"},
		{[]int{27, 39, 19}, all, "class 2"}, // 20007
		{[]int{19, 27, 39}, all, "class 2"},
		{[]int{60, 60, 60}, all, "class 2"},
		{[]int{60, 60, 0}, all, "col1: 0"},
		{[]int{0, 60, 60}, all, "col1: 0"},
		{[]int{60, 60, 5}, all, "col1: 18000"},
		{[]int{60, 60, 6}, all, "class 2"},
		{[]int{60, 60}, "SELECT COUNT(*) FROM a JOIN b ON TRUE", "col1: 3600"},
		{[]int{28}, "SELECT COUNT(*) FROM a JOIN a n ON a.i = n.i JOIN a m ON FALSE", "class 2"},
		{[]int{27}, "SELECT COUNT(*) FROM a JOIN a n ON a.i = n.i JOIN a m ON n.i = m.i", "col1: 27"},
		{[]int{27, 39, 19}, "SELECT 1 / 0 FROM a JOIN b ON i = j JOIN c ON j = k", "class 2"},
		{[]int{27, 39, 19}, "SELECT i FROM a JOIN b ON 1 / j = 1 JOIN c ON FALSE", "class 2"},
		{[]int{27, 39, 19}, "SELECT i FROM a JOIN b ON TRUE JOIN c ON TRUE WHERE i = 1", "class 2"},
		{[]int{27, 39, 19}, "SELECT zz FROM a JOIN b ON TRUE JOIN c ON TRUE", "class 3"},
	} {
		s, x := sized(t, c.counts...), statement(t, c.sql)
		a, got := query(t, s, x)
		if got := say(a, got, true); got != c.want {
			t.Errorf("P16.1: %d: %s: %s, want %s", c.counts, c.sql, got, c.want)
		}
		if c.want == "class 2" {
			if _, got := by(t, s, x, none); got != api.ErrLimit {
				t.Errorf("P16.1: %d: %s by a way to no rows: class %d", c.counts, c.sql, got)
			}
		}
		l, got := joined(t, s, x)
		if isRefused := strings.HasPrefix(c.want, "class"); isRefused && (fmt.Sprint("class ", int(got)) != c.want) || !isRefused && got != 0 {
			t.Errorf("P16.3: %d: %s: class %d, %d rows", c.counts, c.sql, got, len(l))
		}
	}
}
