package exec_test

import (
	"errors"
	"testing"

	"consistory/api"
	"consistory/exec"
)

// TestWorstOfAStep: P16.1: of all rows of a step the worst error, in whatever order they stand. (g has rows whose m is 1, 0, 1, 0, NULL, and with an n of 1, 0, the greatest, the least, 2.)
func TestWorstOfAStep(t *testing.T) {
	questions{
		// of joins
		{"SELECT n FROM g JOIN u ON 1 / m = 1", "class 7"},
		{"SELECT n FROM g JOIN u ON n + 1 = k", "class 6"},
		{"SELECT n FROM g JOIN u ON 1 / m = n + 1", "class 6"},
		{"SELECT n FROM g JOIN u ON CASE WHEN n = 0 THEN 1 / m = 1 ELSE n + 1 = 1 END", "class 6"},
		{"SELECT n FROM g LEFT JOIN u ON 1 / w = 1", "class 7"},
		{"SELECT w FROM u JOIN g ON 1 / w = 1 AND n - 1 = 0", "class 6"},
		{"SELECT w FROM u JOIN g ON n = 1 AND 1 / w = 1 OR w = 0 AND - n = 0", "class 6"},
		{"SELECT 1 FROM g JOIN u ON TRUE JOIN t ON 1 / b = 1", "class 7"},
		{"SELECT 1 FROM g JOIN u ON FALSE JOIN t ON 1 / 0 = 1", "col1: "},
		{"SELECT 1 FROM e JOIN g ON 1 / 0 = 1", "col1: "},
		{"SELECT 1 FROM g JOIN e ON 1 / 0 = 1", "col1: "},
		{"SELECT 1 FROM g LEFT JOIN e ON 1 / 0 = 1 WHERE n = 1", "col1: 1"},
		// of Where
		{"SELECT n FROM g WHERE 1 / m = 1", "class 7"},
		{"SELECT n FROM g WHERE n + 1 > 0", "class 6"},
		{"SELECT n FROM g WHERE 1 / m = 1 AND n + 1 > 0", "class 6"},
		{"SELECT n FROM g WHERE m = 1 AND 1 / (n - 1) = 1 OR m = 0 AND - n = 0", "class 6"},
		{"SELECT n FROM g WHERE FALSE AND 1 / m = 1", "n: "},
		{"SELECT w FROM u WHERE 1 / w = 1 AND w > 0", "class 7"},
		{"SELECT w FROM u WHERE w > 0 AND 1 / w = 1", "w: 1"},
		// of Having
		{"SELECT m FROM g GROUP BY m HAVING 1 / m = 1", "class 7"},
		{"SELECT m FROM g GROUP BY m HAVING SUM(n) > 0", "class 6"},
		{"SELECT m FROM g GROUP BY m HAVING CASE WHEN m = 0 THEN 1 / m = 1 ELSE SUM(n) > 0 END", "class 6"},
		{"SELECT m FROM g WHERE n < 2 GROUP BY m HAVING SUM(n) > 0 OR 1 / m = 1", "class 7"},
		{"SELECT MAX(n) FROM g HAVING SUM(1 / m) = 1", "class 7"},
		{"SELECT MAX(n) FROM g HAVING SUM(1 / m) + SUM(n + 1) = 1", "class 7"},
		// of items and of what is ordered by
		{"SELECT 1 / m FROM g", "class 7"},
		{"SELECT n + 1 FROM g", "class 6"},
		{"SELECT n, 1 / m, n + 1 FROM g", "class 6"},
		{"SELECT n, n + 1, 1 / m FROM g", "class 6"},
		{"SELECT 1 / m + n FROM g", "class 6"},
		{"SELECT 1 / m FROM g LIMIT 0", "class 7"},
		{"SELECT 1 / m FROM g WHERE m = 1 OR m IS NULL LIMIT 1", "col1: 1"},
		{"SELECT n FROM g ORDER BY 1 / m", "class 7"},
		{"SELECT n FROM g ORDER BY m, n + 1", "class 6"},
		{"SELECT n FROM g ORDER BY 1 / m, n + 1", "class 6"},
		{"SELECT n FROM g ORDER BY n + 1, 1 / m", "class 6"},
		{"SELECT n FROM g ORDER BY 1 / m LIMIT 0", "class 7"},
		{"SELECT 1 / m FROM g ORDER BY n + 1", "class 6"},
		{"SELECT n + 1 FROM g ORDER BY 1 / m", "class 6"},
		{"SELECT DISTINCT 1 / m FROM g", "class 7"},
		{"SELECT DISTINCT 1 / m, n + 1 FROM g ORDER BY 1 / m", "class 6"},
		{"SELECT m, 1 / m FROM g GROUP BY m", "class 7"},
		{"SELECT m, SUM(n) FROM g GROUP BY m", "class 6"},
		{"SELECT 1 / m, SUM(n) FROM g GROUP BY m", "class 6"},
		{"SELECT SUM(1 / m), SUM(n + 1) FROM g", "class 6"},
		{"SELECT SUM(1 / m) FROM g ORDER BY SUM(n - 1)", "class 6"},
		{"SELECT COUNT(*) FROM g GROUP BY m ORDER BY 1 / m", "class 7"},
		{"SELECT s || s || s FROM t", "col1: 'xxx', 'xxx', 'yyy', NULL"},
	}.ask(t, "P16.1")
}

// TestNothingBehindAnError: P16.1: the error of the first step that errs, however bad the next ones' are; and none of rows that a step has left out.
func TestNothingBehindAnError(t *testing.T) {
	questions{
		{"SELECT n FROM g JOIN u ON 1 / m = 1 JOIN t ON n + 1 = 1", "class 7"},
		{"SELECT n FROM g JOIN u ON n + 1 = 1 JOIN t ON 1 / m = 1", "class 6"},
		{"SELECT n FROM g JOIN u ON 1 / m = 1 WHERE n + 1 = 1", "class 7"},
		{"SELECT n FROM g JOIN u ON TRUE JOIN t ON 1 / m = 1 WHERE n + 1 = 1", "class 7"},
		{"SELECT m FROM g WHERE 1 / m = 1 GROUP BY m HAVING SUM(n) = 1", "class 7"},
		{"SELECT n + 1 FROM g WHERE 1 / m = 1", "class 7"},
		{"SELECT n FROM g WHERE 1 / m = 1 ORDER BY n + 1", "class 7"},
		{"SELECT SUM(n) FROM g GROUP BY m HAVING 1 / m = 1", "class 7"},
		{"SELECT m FROM g GROUP BY m HAVING 1 / m = 1 ORDER BY SUM(n)", "class 7"},
		{"SELECT SUM(n) FROM g GROUP BY m HAVING MAX(n) < 0", "col1: "},
		{"SELECT n + 1 FROM g WHERE n < 2 AND n >= 0", "col1: 1, 2"},
		{"SELECT 1 / m FROM g WHERE m = 1", "col1: 1, 1"},
		{"SELECT 1 / m FROM g WHERE FALSE", "col1: "},
		{"SELECT 1 / COUNT(*) FROM e", "class 7"},
		{"SELECT 1 / COUNT(*) FROM e GROUP BY z", "col1: "},
		{"SELECT 1 / COUNT(*) FROM e HAVING COUNT(*) > 0", "col1: "},
		{"SELECT 1 / 0 FROM e", "col1: "},
		{"SELECT a FROM e JOIN t ON 1 / 0 = 1 WHERE 1 / 0 = 1 ORDER BY 1 / 0", "a: "},
	}.ask(t, "P16.1")
}

// TestErrorsAreWrapped: with the clause that they are of.
func TestErrorsAreWrapped(t *testing.T) {
	for sql, want := range map[string]string{
		"DELETE FROM t":                                          "statement: class 20",
		"SELECT zz FROM t":                                       "items: zz: class 3",
		"SELECT n FROM g JOIN u ON 1 / m = 1":                    "JOIN: u: class 7",
		"SELECT n FROM g JOIN u ON TRUE JOIN t o ON 1 / m = 1":   "JOIN: t: class 7",
		"SELECT n FROM g WHERE 1 / m = 1":                        "WHERE: class 7",
		"SELECT m FROM g GROUP BY m HAVING SUM(n) = 1":           "HAVING: class 6",
		"SELECT 1 / m FROM g ORDER BY 1 % m":                     "items: class 7",
		"SELECT 1 / m FROM g ORDER BY n + 1":                     "ORDER BY: class 6",
		"SELECT n + 1 FROM g ORDER BY 1 / m":                     "items: class 6",
		"SELECT n FROM g WHERE 1 / m = 1 ORDER BY n + 1 LIMIT 0": "WHERE: class 7",
	} {
		_, err := exec.Query(store(t), statement(t, sql))
		var w *api.Within
		if err == nil || err.Error() != want || !errors.As(err, &w) {
			t.Errorf("%s: %v, want %s", sql, err, want)
		}
	}
	_, err := exec.Query(sized(t, 60, 60, 60), statement(t, "SELECT 1 FROM a JOIN b ON TRUE JOIN c ON TRUE"))
	if err == nil || err.Error() != "FROM: class 2" {
		t.Errorf("too much: %v", err)
	}
	_, err = exec.By(store(t), statement(t, "SELECT a FROM t"), api.Way{Key: 2})
	if err == nil || err.Error() != "t: way: class 20" {
		t.Errorf("a way: %v", err)
	}
}
