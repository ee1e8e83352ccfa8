package plan_test

import (
	"math"
	"slices"
	"strings"
	"testing"

	"consistory/api"
)

// edges: of each type values at which something goes wrong, or is equal to what the texts here name.
func edges(kind int) []api.Value {
	switch kind {
	case api.Bool:
		return []api.Value{no, yes}
	case api.Int:
		return []api.Value{integer(math.MinInt64), integer(-1), integer(0), integer(1), integer(5), integer(math.MaxInt64)}
	}
	return []api.Value{textOf(""), textOf("x"), textOf(strings.Repeat("x", api.MaxText))}
}

// rowsOf makes rows of a table, with many of the values that each column may have.
func rowsOf(c chance, table api.Table, n int) [][]api.Value {
	var out [][]api.Value
	for range n {
		var row []api.Value
		for _, col := range table.Cols {
			v := pick(c, edges(col.Type)...)
			if !col.NotNull && c(4) == 0 {
				v = null
			}
			row = append(row, v)
		}
		out = append(out, row)
	}
	return out
}

// sheetsOf makes rows of all sources of x.
func sheetsOf(c chance, s api.Schema, x api.Stmt, n int) sheets {
	out := sheets{rowsOf(c, s.Tables[first(s, x)], n)}
	for _, f := range x.From[min(1, len(x.From)):] {
		i := slices.IndexFunc(s.Tables, func(t api.Table) bool { return t.Name == f.Name })
		out = append(out, rowsOf(c, s.Tables[i], 6))
	}
	return out
}

// hold holds all ways of x against rows by chance: P15.2, P15.3 and P15.5; it tells the ways.
func hold(t *testing.T, c chance, s api.Schema, x api.Stmt, n int) []api.Way {
	t.Helper()
	l, got := all(t, s, x)
	if got != 0 {
		t.Fatalf("class %d of %+v", got, x)
	}
	x = resolved(t, s, x)
	table, rows := s.Tables[first(s, x)], sheetsOf(c, s, x, n)
	whole := joined(table.Keys, x, l[0], rows)
	for _, w := range l {
		if why := fault(table.Keys, x, w, rows); why != "" {
			t.Fatalf("P15.2: by %s: %s", show(w), why)
		}
		if got := joined(table.Keys, x, w, rows); got != whole {
			t.Fatalf("P15.5: by %s: %s, want %s", show(w), got, whole)
		}
	}
	at, fits, must := wanted(table, x)
	for _, w := range must {
		if !slices.ContainsFunc(l, func(o api.Way) bool { return equal(o, w) }) {
			t.Fatalf("P15.3: no %s", show(w))
		}
		for _, row := range rows[0] {
			if tells(table.Keys, w, row) && !fits(row[at]) {
				t.Fatalf("P15.3: %s tells %v", show(w), row)
			}
		}
	}
	return l
}

// wild: statements of which no way but the one to all rows is safe, with one that isn't.
var wild = []struct {
	sql string
	way api.Way
}{
	{"SELECT * FROM t WHERE 1 / b > 0 AND a = 5", api.Way{Key: 1, Eq: []api.Value{integer(5)}}},
	{"SELECT * FROM t WHERE b = 5 AND 1 / a > 0", api.Way{Key: 2, Eq: []api.Value{integer(5)}}},
	{"SELECT * FROM t WHERE b = 5 AND (1 / a > 0 AND a > 0)", api.Way{Key: 2, Eq: []api.Value{integer(5)}}},
	{"SELECT * FROM t WHERE a = 5 OR b = 1", api.Way{Key: 1, Eq: []api.Value{integer(5)}}},
	{"SELECT * FROM t WHERE (a = 5 OR b = 1) AND TRUE", api.Way{Key: 1, Eq: []api.Value{integer(5)}}},
	{"SELECT * FROM t WHERE NOT (a = 5)", api.Way{Key: 1, Eq: []api.Value{integer(5)}}},
	{"SELECT * FROM t WHERE a <> 5", api.Way{Key: 1, Eq: []api.Value{integer(5)}}},
	{"SELECT * FROM t WHERE (a = 5) IS NOT NULL", api.Way{Key: 1, Eq: []api.Value{integer(5)}}},
	{"SELECT * FROM t WHERE (b = 5) IS NULL", api.Way{Key: 2, Eq: []api.Value{integer(5)}}},
	{"SELECT * FROM t WHERE a = b", api.Way{Key: 1, Eq: []api.Value{integer(5)}}},
	{"SELECT * FROM t WHERE b + 1 = 6", api.Way{Key: 2, Eq: []api.Value{integer(5)}}},
	{"SELECT * FROM t WHERE a + 1 > 0 AND a = 5", api.Way{Key: 1, Eq: []api.Value{integer(5)}}},
	{"SELECT * FROM t WHERE a - 1 < 0 AND a = 5", api.Way{Key: 1, Eq: []api.Value{integer(5)}}},
	{"SELECT * FROM t WHERE a * 2 > 0 AND a = 5", api.Way{Key: 1, Eq: []api.Value{integer(5)}}},
	{"SELECT * FROM t WHERE a / -1 > 0 AND a = 5", api.Way{Key: 1, Eq: []api.Value{integer(5)}}},
	{"SELECT * FROM t WHERE a * -1 > 0 AND a = 5", api.Way{Key: 1, Eq: []api.Value{integer(5)}}},
	{"SELECT * FROM t WHERE a % 0 = 0 AND a = 5", api.Way{Key: 1, Eq: []api.Value{integer(5)}}},
	{"SELECT * FROM t WHERE a % b = 0 AND a = 5", api.Way{Key: 1, Eq: []api.Value{integer(5)}}},
	{"SELECT * FROM t WHERE - a < 0 AND a = 5", api.Way{Key: 1, Eq: []api.Value{integer(5)}}},
	{"SELECT * FROM t WHERE 0 - a < 0 AND a = 5", api.Way{Key: 1, Eq: []api.Value{integer(5)}}},
	{"SELECT * FROM t WHERE c || 'x' > 'x' AND a = 5", api.Way{Key: 1, Eq: []api.Value{integer(5)}}},
	{"SELECT * FROM t WHERE c || d > 'x' AND a = 5", api.Way{Key: 1, Eq: []api.Value{integer(5)}}},
	{"SELECT * FROM t WHERE 1 IN (2, 1 / b) AND a = 5", api.Way{Key: 1, Eq: []api.Value{integer(5)}}},
	{"SELECT * FROM t WHERE CASE WHEN p THEN q ELSE 1 / b = 1 END AND a = 5", api.Way{Key: 1, Eq: []api.Value{integer(5)}}},
	{"SELECT * FROM t WHERE (q OR NOT (1 % b = 0)) AND a = 5", api.Way{Key: 1, Eq: []api.Value{integer(5)}}},
	{"SELECT * FROM t WHERE (1 / b IS NULL) AND a = 5", api.Way{Key: 1, Eq: []api.Value{integer(5)}}},
	{"SELECT * FROM t WHERE 1 / 0 = 1 AND a = 5", api.Way{Key: 1, Eq: []api.Value{integer(5)}}},
	{"SELECT * FROM t WHERE 9223372036854775807 + 1 = 1 AND a = 5", api.Way{Key: 1, Eq: []api.Value{integer(5)}}},
	{"SELECT * FROM t WHERE a = 1 / 0", api.Way{Key: 1, Eq: []api.Value{integer(0)}}},
	{"SELECT * FROM t WHERE b = 5 AND 1 / 0 = 1", api.Way{Key: 2, Eq: []api.Value{integer(5)}}},
	{"UPDATE t SET a = 1 WHERE b < 5 AND 7 / a = 1", api.Way{Key: 2, Hi: integer(5), HasHi: true}},
	{"DELETE FROM t WHERE 1 / b = 1 AND a = 5", api.Way{Key: 1, Eq: []api.Value{integer(5)}}},
	{"SELECT * FROM t JOIN u ON 1 / y = 1 WHERE a = 5", api.Way{Key: 1, Eq: []api.Value{integer(5)}}},
	{"SELECT * FROM t JOIN u ON a + 1 = x WHERE a = 5", api.Way{Key: 1, Eq: []api.Value{integer(5)}}},
	{"SELECT * FROM t LEFT JOIN u ON a = x / y WHERE a = 5", api.Way{Key: 1, Eq: []api.Value{integer(5)}}},
	{"SELECT * FROM t JOIN u ON TRUE JOIN v ON z || c = '' WHERE a = 5", api.Way{Key: 1, Eq: []api.Value{integer(5)}}},
	{"SELECT * FROM t JOIN u ON TRUE WHERE 1 / y = 1 AND a = 5", api.Way{Key: 1, Eq: []api.Value{integer(5)}}},
	{"SELECT * FROM t JOIN u ON TRUE WHERE t.b = 5 AND 1 / y = 1", api.Way{Key: 2, Eq: []api.Value{integer(5)}}},
	{"SELECT * FROM t JOIN u ON a = 5", api.Way{Key: 1, Eq: []api.Value{integer(5)}}},
	{"SELECT * FROM t LEFT JOIN u ON TRUE WHERE x = 5", api.Way{Key: 1, Eq: []api.Value{integer(5)}}},
	{"SELECT * FROM t JOIN u ON TRUE WHERE u.b = 5", api.Way{Key: 2, Eq: []api.Value{integer(5)}}},
	{"SELECT * FROM u n JOIN u m ON TRUE WHERE m.x = 5", api.Way{Key: 0, Eq: []api.Value{integer(5)}}},
	{"SELECT MAX(a) FROM t HAVING MAX(a) = 5", api.Way{Key: 1, Eq: []api.Value{integer(5)}}},
}

// TestUnsafe: P15.2: these have the way to all rows alone. Another one is shown to be unsafe: so what is held against rows elsewhere would be seen.
func TestUnsafe(t *testing.T) {
	s := schema(t)
	for _, c := range wild {
		if l := told(t, c.sql); len(l) != 1 {
			t.Errorf("P15.2: %s: %v", c.sql, l)
		}
		x := resolved(t, s, statement(t, c.sql))
		why := ""
		for seed := int64(0); seed < 20 && why == ""; seed++ {
			why = fault(s.Tables[first(s, x)].Keys, x, c.way, sheetsOf(byChance(seed), s, x, 60))
		}
		if why == "" {
			t.Errorf("%s: %s seems to be safe", c.sql, show(c.way))
		}
	}
}

// TestSafe: P15.2, P15.5: ways by keys that are there, and safe.
func TestSafe(t *testing.T) {
	s := schema(t)
	for _, sql := range []string{
		"SELECT * FROM t WHERE a = 5 AND 1 / b > 0",
		"SELECT * FROM t WHERE a = 5 AND (b = 1 AND 1 / b > 0)",
		"SELECT * FROM t WHERE (a = 5 AND b = 1) AND 1 / b > 0",
		"SELECT * FROM t WHERE p AND a = 5 AND 1 / b > 0",
		"SELECT * FROM t WHERE q AND a = 5 AND 1 / b > 0",
		"SELECT * FROM t WHERE q AND b = 5 AND a > 1",
		"SELECT * FROM t WHERE b = 5 AND a % 2 = 0 AND a / 7 > 0",
		"SELECT * FROM t WHERE a = 2 + 3 AND b > 7 / 2 - 4",
		"SELECT * FROM t WHERE b = NULL AND a = 5",
		"SELECT * FROM t WHERE a > 5 AND a = 1",
		"SELECT * FROM t WHERE a = 5 AND a = 1",
		"SELECT * FROM t WHERE b BETWEEN 1 AND 5",
		"SELECT * FROM t WHERE b > 5 AND b < 5",
		"SELECT * FROM t WHERE c >= 'x' AND a < 5 AND c <= 'x' AND b > -1",
		"UPDATE t SET a = a / b, b = 1 / 0 WHERE a = 5",
		"DELETE FROM t WHERE NOT q AND t.a < 5",
		"SELECT 1 / 0 FROM t WHERE a = 5 GROUP BY a HAVING 1 / 0 = 1 ORDER BY 1 / 0",
		"SELECT * FROM t JOIN u ON a = x WHERE a = 5 AND 1 / y = 1",
		"SELECT * FROM t JOIN u ON TRUE WHERE x = 1 AND a = 5",
		"SELECT * FROM t LEFT JOIN u ON a = x AND y > 0 LEFT JOIN v ON s OR c = z WHERE a <= 1",
		"SELECT * FROM u n JOIN u m ON n.x = m.y JOIN u o ON n.x > o.x WHERE 1 >= n.x AND m.x / o.y = 1",
	} {
		x := statement(t, sql)
		for seed := range int64(20) {
			if l := hold(t, byChance(seed), s, x, 60); len(l) < 2 {
				t.Errorf("%s: %d ways", sql, len(l))
				break
			}
		}
	}
}

// TestWhatCantErr: P15.2: parts that err on no row may stand ahead of a test, and behind one of a column that may be NULL.
func TestWhatCantErr(t *testing.T) {
	s := schema(t)
	for _, part := range []string{
		"q", "NOT q", "b IS NULL", "d IS NOT NULL", "a = b", "c <> d", "a IN (1, b, NULL)", "q AND p", "(q OR p)", "CASE WHEN q THEN p WHEN a > 1 THEN q END", "NULL", "TRUE", "FALSE", "1 + 1 = 3",
		"a % 2 = 0", "a % -1 = 0", "a / 2 = 1", "a * 1 = a", "a * 0 = 0", "a + 0 = a", "a - 0 = a", "-1 - a < 0", "0 + a = a", "a + NULL = 1", "NULL / a = 1", "- NULL = a", "c || '' = d", "'' || c = d", "c || NULL = 'x'",
		"'it' || '''s' = c", "CASE WHEN FALSE THEN 1 / 1 ELSE 2 % 2 END = a", "7 / (3 - 2) IN (a, 5 % 3)",
	} {
		for _, sql := range []string{"SELECT * FROM t WHERE " + part + " AND a = 5 AND 1 / b = 1", "SELECT * FROM t WHERE b = 5 AND " + part, "SELECT * FROM t JOIN v ON " + part + " WHERE b = 5"} {
			if l := hold(t, byChance(3), s, statement(t, sql), 60); len(l) < 2 {
				t.Errorf("%s: %d ways", sql, len(l))
			}
		}
	}
}
