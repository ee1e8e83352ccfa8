package change_test

import (
	"fmt"
	"strings"
	"testing"

	"consistory/api"
	"consistory/table"
)

// values writes rows `(from), (from + 1) ..` of one element, so many.
func values(from, many int) string {
	var l []string
	for n := range many {
		l = append(l, fmt.Sprintf("(%d)", from+n))
	}
	return strings.Join(l, ", ")
}

// sixty: a store of t with so many rows, of values 0 to 59 in a.
func sixty(t *testing.T) *table.Store {
	t.Helper()
	l := []string{"CREATE TABLE t (a INT PRIMARY KEY)"}
	for n := range 6 {
		l = append(l, "INSERT INTO t VALUES "+values(n*10, 10))
	}
	return filled(t, l...)
}

// TestInsert: P17.1: rows of the values, Null where nothing is named, with the next Ids, in order.
func TestInsert(t *testing.T) {
	cases{
		{"INSERT INTO e VALUES (1, 2)", "1", "e: 1 (1, 2), next 2"},
		{"INSERT INTO e VALUES (1, 2), (NULL, 2), (1, 2)", "3", "e: 1 (1, 2), 2 (NULL, 2), 3 (1, 2), next 4"},
		{"INSERT INTO e (b) VALUES (1), (2)", "2", "e: 1 (NULL, 1), 2 (NULL, 2), next 3"},
		{"INSERT INTO e (a) VALUES (1)", "1", "e: 1 (1, NULL), next 2"},
		{"INSERT INTO e (a, b) VALUES (1, 2)", "1", "e: 1 (1, 2), next 2"},
		{"INSERT INTO e (b, a) VALUES (1, 2), (3, 4)", "2", "e: 1 (2, 1), 2 (4, 3), next 3"},
		{"INSERT INTO e VALUES (1 + 2 * 3, - (5 % 3)), (CASE WHEN FALSE THEN 1 / 0 ELSE 8 END, CASE WHEN NULL THEN 1 END)", "2", "e: 1 (7, -2), 2 (8, NULL), next 3"},
		{"INSERT INTO t VALUES (9, 9, 'q' || 'r', NOT 1 = 2)", "1", strings.Replace(filledT, "next 5", "5 (9, 9, 'qr', TRUE), next 6", 1)},
		{"INSERT INTO t (p, a) VALUES (1 IN (2, 1), 0)", "1", strings.Replace(filledT, "next 5", "5 (0, NULL, NULL, TRUE), next 6", 1)},
		{"INSERT INTO t (s, a, p) VALUES (NULL, 8, FALSE), (NULL, 9, FALSE)", "2", strings.Replace(filledT, "next 5", "5 (8, NULL, NULL, FALSE), 6 (9, NULL, NULL, FALSE), next 7", 1)},
	}.run(t, "P17.1")
}

// TestInsertReckonsAll: P17.1: the worst error of all elements of all rows, whatever the table has.
func TestInsertReckonsAll(t *testing.T) {
	const great, long = "9223372036854775807 + 1", "'0123456789012345678901234567890123456789' || 'x'"
	cases{
		{"INSERT INTO e VALUES (1 / 0, 1)", "class 7", asItWas},
		{"INSERT INTO e VALUES (1, 1 % 0)", "class 7", asItWas},
		{"INSERT INTO e VALUES (1, 2), (3, 4), (5, 6 / 0)", "class 7", asItWas},
		{"INSERT INTO e VALUES (1, " + great + ")", "class 6", asItWas},
		{"INSERT INTO e VALUES (1 / 0, " + great + ")", "class 6", asItWas},
		{"INSERT INTO e VALUES (" + great + ", 1 / 0)", "class 6", asItWas},
		{"INSERT INTO e VALUES (1 / 0, 1), (2, 2), (3, " + great + ")", "class 6", asItWas},
		{"INSERT INTO e VALUES (1, " + great + "), (1 / 0, 2)", "class 6", asItWas},
		{"INSERT INTO e VALUES (1 / 0 + (" + great + "), 1)", "class 7", asItWas},
		{"INSERT INTO t VALUES (9, 1 / 0, " + long + ", TRUE)", "class 6", asItWas},
		{"INSERT INTO t VALUES (9, 9, " + long + ", TRUE)", "class 6", asItWas},
		{"INSERT INTO t VALUES (1, 9, 'x', TRUE), (1, 1 / 0, NULL, NULL)", "class 7", asItWas},
		{"INSERT INTO t VALUES (NULL, 9, 'q', 1 / 0 = 1)", "class 7", asItWas},
		{"INSERT INTO t (b) VALUES (1 / 0)", "class 7", asItWas},
	}.run(t, "P17.1")
	full := sixty(t)
	for sql, want := range map[string]api.Class{
		"INSERT INTO t VALUES (1 / 0)":         api.ErrZero,
		"INSERT INTO t VALUES (99), (1 / 0)":   api.ErrZero,
		"INSERT INTO t VALUES (" + great + ")": api.ErrOverflow,
		"INSERT INTO t VALUES (99)":            api.ErrLimit,
	} {
		if _, c := hold(t, full, statement(t, sql)); c != want {
			t.Errorf("P17.1: into 60 rows: %s: class %d, want %d", sql, c, want)
		}
	}
}

// TestInsertWrites: P17.1: table.Write's errors; of one row that may not be none goes in.
func TestInsertWrites(t *testing.T) {
	cases{
		{"INSERT INTO t VALUES (1, 9, 'q', TRUE)", "class 5", asItWas},
		{"INSERT INTO t VALUES (8, 9, 'q', TRUE), (9, 9, 'q', TRUE)", "class 5", asItWas},
		{"INSERT INTO t VALUES (8, 9, 'q', TRUE), (8, 9, 'r', TRUE)", "class 5", asItWas},
		{"INSERT INTO t VALUES (8, 9, 'q', TRUE), (9, 9, 'x', TRUE)", "class 5", asItWas},
		{"INSERT INTO t VALUES (8, 9, 'q', TRUE), (9, 9, 'r', NULL)", "class 5", asItWas},
		{"INSERT INTO t (a) VALUES (8)", "class 5", asItWas},
		{"INSERT INTO t (p) VALUES (TRUE)", "class 5", asItWas},
		{"INSERT INTO t VALUES (2 - 1, 9, 'q', TRUE)", "class 5", asItWas},
		{"INSERT INTO t VALUES (NULL, 9, 'q', TRUE)", "class 5", asItWas},
	}.run(t, "P17.1")
}

// TestInsertFillsUp: P17.1: 60 rows are taken, ErrLimit is told of one more, ahead of what keys refuse.
func TestInsertFillsUp(t *testing.T) {
	store := filled(t, "CREATE TABLE t (a INT PRIMARY KEY)")
	for n := range 5 {
		hold(t, store, statement(t, "INSERT INTO t VALUES "+values(n*10, 10)))
	}
	for _, x := range []struct {
		sql  string
		want string
		rows int
	}{
		{"INSERT INTO t VALUES " + values(50, 9), "9", 59},
		{"INSERT INTO t VALUES (99), (98)", "class 2", 59},
		{"INSERT INTO t VALUES (1), (1)", "class 2", 59},
		{"INSERT INTO t VALUES (NULL), (98)", "class 2", 59},
		{"INSERT INTO t VALUES (1)", "class 5", 59},
		{"INSERT INTO t VALUES (99)", "1", 60},
		{"INSERT INTO t VALUES (98)", "class 2", 60},
		{"INSERT INTO t VALUES (1)", "class 2", 60},
		{"UPDATE t SET a = a + 1", "60", 60},
		{"DELETE FROM t WHERE a <= 2", "2", 58},
		{"INSERT INTO t VALUES (1), (2), (3)", "class 2", 58},
		{"INSERT INTO t VALUES (1), (2)", "2", 60},
		{"DELETE FROM t", "60", 0},
		{"INSERT INTO t VALUES " + values(0, 10), "10", 10},
	} {
		a, c := hold(t, store, statement(t, x.sql))
		if got := say(a, c); got != x.want || store.Count(0) != x.rows {
			t.Errorf("P17.1: %s: %s, %d rows, want %s, %d", x.sql, got, store.Count(0), x.want, x.rows)
		}
	}
}

// TestLastIds: P17.1, P17.3: a table whose Ids are used up takes no row any more; it would be no data.
func TestLastIds(t *testing.T) {
	s := filled(t, "CREATE TABLE t (a INT)").Schema()
	rows := [][]api.Row{{{Id: 7, Vals: []api.Value{integer(1)}}}}
	store, err := table.Of(s, api.Data{Rows: rows, Next: []uint64{1<<62 - 1}})
	if err != nil {
		t.Fatal(err)
	}
	for _, x := range []struct{ sql, want, then string }{
		{"INSERT INTO t VALUES (8), (9)", "class 5", "t: 7 (1), next 4611686018427387903"},
		{"INSERT INTO t VALUES (8)", "1", "t: 7 (1), 4611686018427387903 (8), next 4611686018427387904"},
		{"INSERT INTO t VALUES (9)", "class 5", "t: 7 (1), 4611686018427387903 (8), next 4611686018427387904"},
		{"UPDATE t SET a = a * 2", "2", "t: 7 (2), 4611686018427387903 (16), next 4611686018427387904"},
		{"DELETE FROM t WHERE a > 9", "1", "t: 7 (2), next 4611686018427387904"},
		{"INSERT INTO t VALUES (9)", "class 5", "t: 7 (2), next 4611686018427387904"},
	} {
		a, c := hold(t, store, statement(t, x.sql))
		if got := say(a, c); got != x.want || stateOf(store).say() != x.then {
			t.Errorf("P17.1: %s: %s, then %s, want %s, %s", x.sql, got, stateOf(store).say(), x.want, x.then)
		}
	}
}
