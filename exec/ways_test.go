package exec_test

import (
	"math"
	"strings"
	"testing"

	"consistory/api"
	"consistory/table"
)

// edges: of each type values at which something goes wrong, or that are equal to what the texts here name.
func edges(kind int) []api.Value {
	switch kind {
	case api.Bool:
		return []api.Value{no, yes}
	case api.Int:
		return []api.Value{integer(math.MinInt64), integer(-1), integer(0), integer(1), integer(5), integer(math.MaxInt64)}
	}
	return []api.Value{textOf(""), textOf("x"), textOf(strings.Repeat("x", api.MaxText))}
}

// keyed: a store of tables with keys of all kinds, with rows by chance; of v and w fewer, so that three of them aren't too much.
func keyed(t *testing.T, c chance) *table.Store {
	t.Helper()
	store := filled(t,
		"CREATE TABLE t (a INT NOT NULL, c TEXT NOT NULL, p BOOL NOT NULL, b INT, d TEXT, q BOOL)",
		"CREATE INDEX i ON t (a)",
		"CREATE INDEX j ON t (b, a)",
		"CREATE UNIQUE INDEX k ON t (c, a, b, q)",
		"CREATE INDEX h ON t (a, c)",
		"CREATE TABLE v (x INT NOT NULL, y INT, z TEXT)",
		"CREATE INDEX l ON v (x)",
		"CREATE UNIQUE INDEX m ON v (z, y)",
		"CREATE TABLE w (e INT, f BOOL NOT NULL)",
		"CREATE INDEX n ON w (f, e)",
	)
	for i, most := range []int{60, 20, 12} {
		c.fill(store, i, most)
	}
	return store
}

// fill writes rows by chance, at most so many: those that a key refuses are left out.
func (c chance) fill(store *table.Store, i, most int) {
	table := store.Schema().Tables[i]
	for range most {
		var row []api.Value
		for _, col := range table.Cols {
			v := pick(c, edges(col.Type)...)
			if c(2) == 0 {
				v = edges(col.Type)[len(edges(col.Type))/2]
			}
			if !col.NotNull && c(4) == 0 {
				v = null
			}
			row = append(row, v)
		}
		store.Write(i, nil, nil, [][]api.Value{row})
	}
}

// TestWays: P16.4, with P16.1 to P16.3: statements with ways by keys, that err on rows that one leaves out, or don't.
func TestWays(t *testing.T) {
	t.Parallel()
	for _, sql := range []string{
		"SELECT * FROM t WHERE a = 5 AND 1 / b > 0",
		"SELECT a, d FROM t WHERE a = 5 AND (b = 1 AND 1 / b > 0) ORDER BY d, c DESC",
		"SELECT DISTINCT b, q FROM t WHERE (a = 5 AND b = 1) AND 1 / b > 0",
		"SELECT COUNT(*), MAX(c) FROM t WHERE p AND a = 0 AND 1 / b <= 0",
		"SELECT b, COUNT(*) FROM t WHERE a >= 0 AND a < 5 GROUP BY b HAVING COUNT(*) > 1 ORDER BY b DESC",
		"SELECT b, SUM(a) FROM t WHERE a <= 1 GROUP BY b",
		"SELECT 1 / b FROM t WHERE a = 0",
		"SELECT 1 / a FROM t WHERE 0 < a AND c = 'x'",
		"SELECT a FROM t WHERE b = 0",
		"SELECT a FROM t WHERE b > 0 ORDER BY 1 / b, a + b",
		"SELECT a FROM t WHERE b BETWEEN 0 AND 1 LIMIT 3",
		"SELECT a FROM t WHERE b = NULL AND a = 5",
		"SELECT a FROM t WHERE a > 5 AND a = 1",
		"SELECT a FROM t WHERE c >= 'x' AND a < 5 AND c <= 'x' AND b > -1",
		"SELECT a FROM t WHERE 1 / b > 0 AND a = 5",
		"SELECT a FROM t WHERE b = 5 AND 1 / a > 0",
		"SELECT a FROM t WHERE a + 1 > 0 AND a = 5",
		"SELECT x, f FROM v JOIN w ON x = e WHERE x = 5 AND 1 / y = 1",
		"SELECT x, f FROM v LEFT JOIN w ON x = e AND f WHERE x >= 0 ORDER BY x, f DESC",
		"SELECT COUNT(*), COUNT(f) FROM v LEFT JOIN w ON x = e WHERE z = 'x' AND y > 0",
		"SELECT o.x, v.y, e FROM v JOIN w ON x > e LEFT JOIN v o ON o.z = v.z WHERE v.x <= 1 AND (e / o.y = 1 OR f)",
		"SELECT e FROM w JOIN v ON 1 / y = 1 WHERE f = TRUE",
		"SELECT e, COUNT(y) FROM w LEFT JOIN v ON e = y WHERE f = FALSE AND e >= 0 GROUP BY e HAVING COUNT(*) < 9 ORDER BY COUNT(y), e",
	} {
		x := statement(t, sql)
		byKeys := 0
		for seed := range int64(25) {
			_, _, n := hold(t, keyed(t, byChance(seed)), x)
			byKeys = n
		}
		isUnsafe := strings.Contains(sql, "WHERE 1 / b") || strings.Contains(sql, "1 / a > 0") || strings.Contains(sql, "a + 1 >") || strings.Contains(sql, "ON 1 / y")
		if (byKeys == 0) != isUnsafe {
			t.Errorf("P16.4: %s: %d ways by keys", sql, byKeys)
		}
	}
}
