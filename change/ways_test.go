package change_test

import (
	"math"
	"strings"
	"testing"

	"consistory/api"
	"consistory/plan"
	"consistory/table"
)

// edges: of each type values at which something goes wrong, or that are equal to what the texts here name.
func edges(kind int) []api.Value {
	switch kind {
	case api.Bool:
		return []api.Value{no, yes}
	case api.Int:
		return []api.Value{integer(math.MinInt64), integer(-1), integer(0), integer(1), integer(5), integer(math.MaxInt64)}
	}
	return []api.Value{textOf(""), textOf("x"), textOf(strings.Repeat("x", api.MaxText))}
}

// keyed: a store of tables with keys of all kinds, with rows by chance.
func keyed(t *testing.T, c chance) *table.Store {
	t.Helper()
	store := filled(t,
		"CREATE TABLE t (a INT NOT NULL, c TEXT NOT NULL, p BOOL NOT NULL, b INT, d TEXT, q BOOL)",
		"CREATE INDEX i ON t (a)",
		"CREATE INDEX j ON t (b, a)",
		"CREATE UNIQUE INDEX k ON t (c, a, b, q)",
		"CREATE INDEX h ON t (a, c)",
		"CREATE TABLE v (x INT NOT NULL, y INT, z TEXT)",
		"CREATE INDEX l ON v (x)",
		"CREATE UNIQUE INDEX m ON v (z, y)",
		"CREATE TABLE w (e INT, f BOOL NOT NULL)",
		"CREATE INDEX n ON w (f, e)",
	)
	for i, most := range []int{90, 20, 12} {
		c.fill(store, i, most)
	}
	return store
}

// fill writes rows by chance, from so many: those that a key refuses are left out, and those that are too many.
func (c chance) fill(store *table.Store, i, most int) {
	table := store.Schema().Tables[i]
	for range most {
		var row []api.Value
		for _, col := range table.Cols {
			v := pick(c, edges(col.Type)...)
			if c(2) == 0 {
				v = edges(col.Type)[len(edges(col.Type))/2]
			}
			if !col.NotNull && c(4) == 0 {
				v = null
			}
			row = append(row, v)
		}
		store.Write(i, nil, nil, [][]api.Value{row})
	}
}

// isByKey: whether rows are left out of what x looks at, as far as plan guesses it.
func isByKey(store *table.Store, x api.Stmt) bool {
	w, err := plan.Best(store.Schema(), x, api.MaxRows)
	return err == nil && w.Key >= 0
}

// TestWays: P17.1: Where is on all rows, whatever keys there are: statements with ways by keys, and with errors on rows that one leaves out.
func TestWays(t *testing.T) {
	t.Parallel()
	for _, sql := range []string{
		"UPDATE t SET b = 1 WHERE a = 5 AND 1 / b > 0",
		"UPDATE t SET a = a / 2, b = a WHERE a = 5 AND (b = 1 AND 1 / b > 0)",
		"UPDATE t SET d = c, q = p WHERE (a = 5 AND b = 1) AND 1 / b > 0",
		"UPDATE t SET a = 1 / b WHERE a = 0",
		"UPDATE t SET c = d || 'x' WHERE a >= 0 AND a < 5",
		"UPDATE t SET b = a + b WHERE a <= 1",
		"UPDATE t SET a = 5 WHERE 0 < a AND c = 'x'",
		"UPDATE t SET p = NOT p, a = b WHERE b = 0",
		"UPDATE t SET b = NULL WHERE b BETWEEN 0 AND 1",
		"UPDATE t SET b = 1 WHERE b = NULL AND a = 5",
		"UPDATE t SET b = 1 WHERE a > 5 AND a = 1",
		"UPDATE t SET b = 1 WHERE c >= 'x' AND a < 5 AND c <= 'x' AND b > -1",
		"UPDATE t SET b = 1 WHERE 1 / b > 0 AND a = 5",
		"UPDATE t SET b = 1 WHERE b = 5 AND 1 / a > 0",
		"UPDATE t SET b = 1 WHERE a + 1 > 0 AND a = 5",
		"UPDATE v SET x = y WHERE x = 5",
		"UPDATE v SET x = x - 1 WHERE x = 5 AND 1 / y = 1",
		"UPDATE w SET e = e - 1 WHERE f = TRUE AND e > 0",
		"DELETE FROM t WHERE a = 5 AND 1 / b > 0",
		"DELETE FROM t WHERE p AND a = 0 AND 1 / b <= 0",
		"DELETE FROM t WHERE c = 'x'",
		"DELETE FROM t WHERE b > 0",
		"DELETE FROM t WHERE 1 / b > 0 AND a = 5",
		"DELETE FROM v WHERE z = 'x' AND y > 0",
		"DELETE FROM w WHERE f = FALSE AND 1 / e = 1",
	} {
		x := statement(t, sql)
		tried := map[api.Class]int{}
		for seed := range int64(25) {
			_, c := hold(t, keyed(t, byChance(seed)), x)
			tried[c]++
		}
		isUnsafe := strings.Contains(sql, "WHERE 1 / b") || strings.Contains(sql, "1 / a > 0") || strings.Contains(sql, "a + 1 >")
		if byKey := isByKey(keyed(t, byChance(1)), x); byKey == isUnsafe {
			t.Errorf("%s: by a key: %v", sql, byKey)
		}
		if isUnsafe && tried[0] > 5 {
			t.Errorf("P17.1: %s: an error is hidden: %v", sql, tried)
		}
	}
}

// TestKeysChangeNothing: P17.1: the same, with and without an index on what Where asks.
func TestKeysChangeNothing(t *testing.T) {
	for _, sql := range []string{
		"UPDATE t SET b = b + 1 WHERE a = 3", "UPDATE t SET b = 1 / (a - 3) WHERE a > 3", "UPDATE t SET b = 1 / (a - 3) WHERE a >= 3", "UPDATE t SET a = 7 - a WHERE a BETWEEN 2 AND 5",
		"UPDATE t SET b = 0 WHERE 1 / (a - 3) = 0 AND a = 5", "UPDATE t SET b = 0 WHERE a = 5 AND 1 / (a - 3) = 0", "UPDATE t SET b = 0 WHERE b = 20 AND 1 / (a - 3) = 0",
		"DELETE FROM t WHERE a = 3", "DELETE FROM t WHERE a < 3 AND b > 10", "DELETE FROM t WHERE b = 20", "DELETE FROM t WHERE 10 = b OR a = 6",
	} {
		var want state
		var first string
		for n, keys := range [][]string{nil, {"a"}, {"b"}, {"a, b"}, {"b, a"}, {"a", "b", "a, b", "b, a"}} {
			store := filled(t, "CREATE TABLE t (a INT NOT NULL, b INT)", "INSERT INTO t VALUES (1, 10), (2, 20), (3, NULL), (4, 20), (5, 50), (6, NULL)")
			for i, cols := range keys {
				hold(t, store, statement(t, "CREATE INDEX k"+string(rune('a'+i))+" ON t ("+cols+")"))
			}
			a, c := hold(t, store, statement(t, sql))
			if n == 0 {
				want, first = stateOf(store), say(a, c)
			}
			if say(a, c) != first || !equal(store.Data(), want.Data) {
				t.Errorf("P17.1: %s with keys on %v: %s, want %s", sql, keys, say(a, c), first)
			}
		}
	}
}
