package change_test

import (
	"testing"

	"consistory/api"
)

// TestUpdate: P17.1: the rows for which Where is True have what the Sets make of them, each on the row as it was.
func TestUpdate(t *testing.T) {
	cases{
		{"UPDATE t SET b = 7 WHERE a = 2", "1", "t: 1 (1, 5, 'x', TRUE), 2 (2, 7, 'y', FALSE), 3 (3, NULL, NULL, TRUE), 4 (4, 5, NULL, FALSE), next 5"},
		{"UPDATE t SET b = 7", "4", "t: 1 (1, 7, 'x', TRUE), 2 (2, 7, 'y', FALSE), 3 (3, 7, NULL, TRUE), 4 (4, 7, NULL, FALSE), next 5"},
		{"UPDATE t SET b = b", "4", asItWas},
		{"UPDATE t SET b = 5 WHERE b = 5", "2", asItWas},
		{"UPDATE t SET b = NULL, s = NULL WHERE p", "2", "t: 1 (1, NULL, NULL, TRUE), 2 (2, 0, 'y', FALSE), 3 (3, NULL, NULL, TRUE), 4 (4, 5, NULL, FALSE), next 5"},
		{"UPDATE t SET b = b + 1", "4", "t: 1 (1, 6, 'x', TRUE), 2 (2, 1, 'y', FALSE), 3 (3, NULL, NULL, TRUE), 4 (4, 6, NULL, FALSE), next 5"},
		{"UPDATE t SET b = t.a WHERE t.b IS NULL", "1", "t: 1 (1, 5, 'x', TRUE), 2 (2, 0, 'y', FALSE), 3 (3, 3, NULL, TRUE), 4 (4, 5, NULL, FALSE), next 5"},
		{"UPDATE t SET a = b, b = a WHERE s = 'x'", "1", "t: 1 (5, 1, 'x', TRUE), 2 (2, 0, 'y', FALSE), 3 (3, NULL, NULL, TRUE), 4 (4, 5, NULL, FALSE), next 5"},
		{"UPDATE t SET p = a > 2, a = a * 10, b = a + b", "4", "t: 1 (10, 6, 'x', FALSE), 2 (20, 2, 'y', FALSE), 3 (30, NULL, NULL, TRUE), 4 (40, 9, NULL, TRUE), next 5"},
		{"UPDATE t SET s = s || '!' WHERE s <> 'y'", "1", "t: 1 (1, 5, 'x!', TRUE), 2 (2, 0, 'y', FALSE), 3 (3, NULL, NULL, TRUE), 4 (4, 5, NULL, FALSE), next 5"},
		{"UPDATE n SET g = z WHERE g > 1", "2", "n: 1 (1, 1), 2 (0, 0), 3 (1, 1), 4 (NULL, NULL), next 5"},
	}.run(t, "P17.1")
}

// TestWhereIsTrue: P17.1: neither where it is False nor where it is Unknown.
func TestWhereIsTrue(t *testing.T) {
	const two = "t: 1 (1, 5, 'x', TRUE), 2 (2, 7, 'y', FALSE), 3 (3, NULL, NULL, TRUE), 4 (4, 5, NULL, FALSE), next 5"
	cases{
		{"UPDATE t SET b = 7 WHERE a = 9", "0", asItWas},
		{"UPDATE t SET b = 7 WHERE FALSE", "0", asItWas},
		{"UPDATE t SET b = 7 WHERE NULL", "0", asItWas},
		{"UPDATE t SET b = 7 WHERE s = NULL OR FALSE", "0", asItWas},
		{"UPDATE t SET b = 7 WHERE NOT b = 5", "1", two},
		{"UPDATE t SET b = 7 WHERE b <= 0", "1", two},
		{"UPDATE t SET b = 7 WHERE b NOT IN (5, 6)", "1", two},
		{"UPDATE t SET b = 7 WHERE p = FALSE AND s IS NOT NULL", "1", two},
		{"UPDATE t SET a = NULL WHERE b NOT IN (5, NULL)", "0", asItWas},
		{"UPDATE e SET a = 1", "0", asItWas},
	}.run(t, "P17.1")
}

// TestWhereErrs: P17.1: the worst error of Where on all rows, ahead of what the Sets do.
func TestWhereErrs(t *testing.T) {
	cases{
		{"UPDATE t SET b = 7 WHERE 1 / b = 0", "class 7", asItWas},
		{"UPDATE t SET b = 7 WHERE 1 / (a - 1) = 0", "class 7", asItWas},
		{"UPDATE t SET b = 7 WHERE 1 / (a - 4) = 0", "class 7", asItWas},
		{"UPDATE t SET b = 7 WHERE b = 5 OR 1 / b = 1", "class 7", asItWas},
		{"UPDATE t SET b = 7 WHERE 1 / 0 = 1 AND FALSE", "class 7", asItWas},
		{"UPDATE t SET b = 7 WHERE FALSE AND 1 / 0 = 1", "0", asItWas},
		{"UPDATE n SET z = 7 WHERE g + 1 > 0", "class 6", asItWas},
		{"UPDATE n SET z = 7 WHERE 1 / g > 0 OR g + 1 > 0", "class 6", asItWas},
		{"UPDATE n SET z = 7 WHERE g = 9223372036854775807 AND g + 1 > 0 OR 1 / z = 0", "class 6", asItWas},
		{"UPDATE n SET z = 7 WHERE 1 / g = 1", "class 7", asItWas},
		{"UPDATE n SET z = g + 1 WHERE 1 / g = 1", "class 7", asItWas},
		{"UPDATE n SET z = g + 1 WHERE g > 2 AND 1 / (g - 9223372036854775807) = 1", "class 7", asItWas},
		{"UPDATE t SET a = 1, b = a + 9223372036854775807, p = NULL WHERE 1 / b = 1", "class 7", asItWas},
		{"UPDATE e SET a = 1 / 0 WHERE 1 / 0 = 1", "0", asItWas},
	}.run(t, "P17.1")
}

// TestSetsErr: P17.1: the worst error of all Sets on those rows for which Where is True, ahead of what table.Write tells.
func TestSetsErr(t *testing.T) {
	cases{
		{"UPDATE t SET b = 1 / b", "class 7", asItWas},
		{"UPDATE t SET b = 1 / b WHERE a <> 2", "3", "t: 1 (1, 0, 'x', TRUE), 2 (2, 0, 'y', FALSE), 3 (3, NULL, NULL, TRUE), 4 (4, 0, NULL, FALSE), next 5"},
		{"UPDATE t SET b = 1 / b WHERE b > 0", "2", "t: 1 (1, 0, 'x', TRUE), 2 (2, 0, 'y', FALSE), 3 (3, NULL, NULL, TRUE), 4 (4, 0, NULL, FALSE), next 5"},
		{"UPDATE t SET b = 1 / 0 WHERE a = 9", "0", asItWas},
		{"UPDATE t SET b = 1 / 0 WHERE NULL", "0", asItWas},
		{"UPDATE t SET b = 1, a = 1 / (a - 4)", "class 7", asItWas},
		{"UPDATE t SET a = 1 / 0, b = 9223372036854775807 + 1", "class 6", asItWas},
		{"UPDATE t SET b = 9223372036854775807 + 1, a = 1 / 0", "class 6", asItWas},
		{"UPDATE n SET z = 1 / g, g = g + 1", "class 6", asItWas},
		{"UPDATE n SET g = CASE WHEN g < 2 THEN 1 / g ELSE g + 1 END", "class 6", asItWas},
		{"UPDATE n SET g = g + 1 WHERE g < 2", "2", "n: 1 (2, 1), 2 (1, 0), 3 (9223372036854775807, 1), 4 (2, NULL), next 5"},
		{"UPDATE n SET z = g + z, g = 1 / z", "class 6", asItWas},
		{"UPDATE t SET s = s || '0123456789012345678901234567890123456789'", "class 6", asItWas},
		{"UPDATE t SET s = s || '0123456789012345678901234567890123456789' WHERE a > 2", "2", asItWas},
		{"UPDATE t SET a = 1, b = 1 / b", "class 7", asItWas},
		{"UPDATE t SET p = NULL, b = 1 / b", "class 7", asItWas},
		{"UPDATE t SET p = NULL, b = 1 / b WHERE a <> 2", "class 5", asItWas},
	}.run(t, "P17.1")
}

// TestUpdateWrites: P17.1: table.Write's errors: what keys refuse is asked of all rows as they would be then.
func TestUpdateWrites(t *testing.T) {
	cases{
		{"UPDATE t SET a = a + 1", "4", "t: 1 (2, 5, 'x', TRUE), 2 (3, 0, 'y', FALSE), 3 (4, NULL, NULL, TRUE), 4 (5, 5, NULL, FALSE), next 5"},
		{"UPDATE t SET a = a - 1", "4", "t: 1 (0, 5, 'x', TRUE), 2 (1, 0, 'y', FALSE), 3 (2, NULL, NULL, TRUE), 4 (3, 5, NULL, FALSE), next 5"},
		{"UPDATE t SET a = 5 - a", "4", "t: 1 (4, 5, 'x', TRUE), 2 (3, 0, 'y', FALSE), 3 (2, NULL, NULL, TRUE), 4 (1, 5, NULL, FALSE), next 5"},
		{"UPDATE t SET a = 3 - a, s = CASE WHEN s = 'x' THEN 'y' ELSE 'x' END WHERE a < 3", "2", "t: 1 (2, 5, 'y', TRUE), 2 (1, 0, 'x', FALSE), 3 (3, NULL, NULL, TRUE), 4 (4, 5, NULL, FALSE), next 5"},
		{"UPDATE t SET a = a + 1 WHERE a < 3", "class 5", asItWas},
		{"UPDATE t SET a = 9", "class 5", asItWas},
		{"UPDATE t SET a = 9 WHERE a = 3", "1", "t: 1 (1, 5, 'x', TRUE), 2 (2, 0, 'y', FALSE), 3 (9, NULL, NULL, TRUE), 4 (4, 5, NULL, FALSE), next 5"},
		{"UPDATE t SET a = 1 WHERE a = 3", "class 5", asItWas},
		{"UPDATE t SET a = 1 WHERE a = 1", "1", asItWas},
		{"UPDATE t SET s = 'x' WHERE a = 4", "class 5", asItWas},
		{"UPDATE t SET s = 'z' WHERE a > 2", "class 5", asItWas},
		{"UPDATE t SET s = NULL", "4", "t: 1 (1, 5, NULL, TRUE), 2 (2, 0, NULL, FALSE), 3 (3, NULL, NULL, TRUE), 4 (4, 5, NULL, FALSE), next 5"},
		{"UPDATE t SET a = NULL", "class 5", asItWas},
		{"UPDATE t SET a = b", "class 5", asItWas},
		{"UPDATE t SET p = b > 0", "class 5", asItWas},
		{"UPDATE t SET p = b > 0 WHERE b IS NOT NULL", "3", "t: 1 (1, 5, 'x', TRUE), 2 (2, 0, 'y', FALSE), 3 (3, NULL, NULL, TRUE), 4 (4, 5, NULL, TRUE), next 5"},
		{"UPDATE t SET b = 9, p = NULL WHERE a = 4", "class 5", asItWas},
	}.run(t, "P17.1")
}

// TestDelete: P17.1: the rows for which Where is True are gone; their Ids aren't given again.
func TestDelete(t *testing.T) {
	cases{
		{"DELETE FROM t", "4", "t: next 5"},
		{"DELETE FROM t WHERE TRUE", "4", "t: next 5"},
		{"DELETE FROM t WHERE a = 2", "1", "t: 1 (1, 5, 'x', TRUE), 3 (3, NULL, NULL, TRUE), 4 (4, 5, NULL, FALSE), next 5"},
		{"DELETE FROM t WHERE b = 5", "2", "t: 2 (2, 0, 'y', FALSE), 3 (3, NULL, NULL, TRUE), next 5"},
		{"DELETE FROM t WHERE b <> 5", "1", "t: 1 (1, 5, 'x', TRUE), 3 (3, NULL, NULL, TRUE), 4 (4, 5, NULL, FALSE), next 5"},
		{"DELETE FROM t WHERE t.a >= 3 OR s = 'y'", "3", "t: 1 (1, 5, 'x', TRUE), next 5"},
		{"DELETE FROM t WHERE a = 9", "0", asItWas},
		{"DELETE FROM t WHERE NULL", "0", asItWas},
		{"DELETE FROM t WHERE b = NULL", "0", asItWas},
		{"DELETE FROM e", "0", asItWas},
		{"DELETE FROM e WHERE 1 / 0 = 1", "0", asItWas},
		{"DELETE FROM t WHERE 1 / b = 0", "class 7", asItWas},
		{"DELETE FROM t WHERE a = 1 OR 1 / b = 0", "class 7", asItWas},
		{"DELETE FROM t WHERE a = 2 OR 1 / b = 0", "3", "t: 3 (3, NULL, NULL, TRUE), next 5"},
		{"DELETE FROM n WHERE g = 0 OR g + 1 > 2 OR 1 / z = 0", "class 6", asItWas},
		{"DELETE FROM n WHERE 1 / g = 1 OR g + 1 > 0", "class 6", asItWas},
		{"DELETE FROM n WHERE g < 9 AND 1 / z < 9", "class 7", asItWas},
	}.run(t, "P17.1")
	x := store(t)
	for _, c := range []struct{ sql, want string }{{"DELETE FROM t WHERE a > 2", "2"}, {"INSERT INTO t VALUES (3, 3, 'x2', TRUE)", "1"}, {"DELETE FROM t", "3"}, {"INSERT INTO t VALUES (1, 1, 'x', TRUE)", "1"}} {
		if a, class := hold(t, x, statement(t, c.sql)); say(a, class) != c.want {
			t.Errorf("P17.1: %s: %s, want %s", c.sql, say(a, class), c.want)
		}
	}
	if got, want := stateOf(x).say(), "t: 6 (1, 1, 'x', TRUE), next 7; "+filledN+"; "+filledE; got != want {
		t.Errorf("P17.1: then %s, want %s", got, want)
	}
}

// TestErrorsBehindOthers: P17.1: which rows err is told, wherever they stand: the last one's overflow is worse than the first one's zero.
func TestErrorsBehindOthers(t *testing.T) {
	store := sixty(t)
	for sql, want := range map[string]api.Class{
		"UPDATE t SET a = 1 / a WHERE a = 59 OR 1 / a = 1":                                           api.ErrZero,
		"UPDATE t SET a = a WHERE 1 / a = 1 OR a = 59 AND a + 9223372036854775807 = 1":               api.ErrOverflow,
		"UPDATE t SET a = CASE WHEN a = 59 THEN a + 9223372036854775807 ELSE 1 / a END":              api.ErrOverflow,
		"UPDATE t SET a = CASE WHEN a = 0 THEN 9223372036854775807 + 1 ELSE 1 / (a - 59) END":        api.ErrOverflow,
		"UPDATE t SET a = CASE WHEN a = 30 THEN 9223372036854775807 + 1 ELSE 1 / (a % 2) END":        api.ErrOverflow,
		"UPDATE t SET a = 1 / (a - 59)":                                                              api.ErrZero,
		"UPDATE t SET a = a / 2":                                                                     api.ErrConstraint,
		"UPDATE t SET a = a WHERE a < 59 OR 1 / (a - 59) = 1":                                        api.ErrZero,
		"DELETE FROM t WHERE a < 59 OR a + 9223372036854775807 > 0":                                  api.ErrOverflow,
		"DELETE FROM t WHERE a = 0 AND 1 / a = 1 OR a = 59 AND a * 9223372036854775807 > 0":          api.ErrOverflow,
		"UPDATE t SET a = 1 / 0 WHERE a + 9223372036854775748 > 0 AND 1 / a = 1":                     api.ErrZero,
		"UPDATE t SET a = 9223372036854775807 + 1 WHERE a + 9223372036854775748 > 0 AND 1 / a <> 17": api.ErrZero,
	} {
		if _, c := hold(t, store, statement(t, sql)); c != want {
			t.Errorf("P17.1: %s: class %d, want %d", sql, c, want)
		}
	}
}
