package plan_test

import (
	"math"
	"slices"
	"testing"

	"consistory/api"
	"consistory/plan"
)

// best tells what Best answers, which must be one of All's: P15.4.
func best(t *testing.T, s api.Schema, x api.Stmt, rows int) string {
	t.Helper()
	w, err := plan.Best(s, x, rows)
	l, c := all(t, s, x)
	if err != nil || c != 0 || !slices.ContainsFunc(l, func(o api.Way) bool { return equal(o, w) }) {
		t.Fatalf("P15.4: %s of %v, %v", show(w), l, err)
	}
	return show(w)
}

func TestBest(t *testing.T) {
	for _, c := range []struct {
		sql  string
		rows int
		want string
	}{
		{"SELECT * FROM t", 60, "all"},
		{"SELECT * FROM t WHERE a = 5", 60, "0 = 5"},
		{"SELECT * FROM t WHERE a = 5", 1, "all"},
		{"SELECT * FROM t WHERE a = 5", 0, "all"},
		{"SELECT * FROM t WHERE a = 5", -1, "all"},
		{"SELECT * FROM t WHERE a = 5", math.MinInt, "all"},
		{"SELECT * FROM t WHERE a = 5", math.MaxInt, "0 = 5"},
		{"SELECT * FROM t WHERE a > 5", math.MaxInt, "0 >= 5"},
		{"SELECT * FROM t WHERE a > 5", 60, "0 >= 5"},
		{"SELECT * FROM t WHERE a > 5", 2, "all"},
		{"SELECT * FROM t WHERE a > 5 AND a < 9", 60, "0 >= 5 <= 9"},
		{"SELECT * FROM t WHERE a > 5 AND b = 1", 60, "2 = 1"},
		{"SELECT * FROM t WHERE b = 1 AND a = 5", 60, "0 = 5 = 1"},
		{"SELECT * FROM t WHERE b = 1 AND a = 5", 2, "0 = 5 = 1"},
		{"SELECT * FROM t WHERE b = 1 AND a = 5", 1, "all"},
		{"SELECT * FROM t WHERE b = 1", 3, "2 = 1"},
		{"SELECT * FROM t WHERE b = 1", 2, "all"},
		{"SELECT * FROM t WHERE b = 1", -1000, "all"},
		{"SELECT * FROM v WHERE z = 'x' AND w = 'y'", 60, "1 = 'y'"},
		{"DELETE FROM v WHERE s = TRUE AND z = 'x'", 60, "3 = TRUE = 'x'"},
		{"UPDATE v SET r = TRUE WHERE w = 'x'", 60, "1 = 'x'"},
	} {
		if got := best(t, schema(t), statement(t, c.sql), c.rows); got != c.want {
			t.Errorf("%s, %d rows: %s, want %s", c.sql, c.rows, got, c.want)
		}
	}
}
