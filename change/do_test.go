package change_test

import (
	"errors"
	"strings"
	"testing"

	"consistory/api"
	"consistory/change"
	"consistory/parse"
	"consistory/table"
)

// TestWhatResolveRefuses: P17.1: its error, ahead of what goes wrong in any step.
func TestWhatResolveRefuses(t *testing.T) {
	cases{
		{"SELECT zz FROM t", "class 3", asItWas},
		{"SELECT 1 / 0, a || s FROM t", "class 4", asItWas},
		{"SELECT *, *, *, *, *, * FROM t", "class 2", asItWas},
		{"INSERT INTO zz VALUES (1 / 0)", "class 3", asItWas},
		{"INSERT INTO t (a, zz) VALUES (1 / 0, 1)", "class 3", asItWas},
		{"INSERT INTO t (a, a) VALUES (1 / 0, 1)", "class 3", asItWas},
		{"INSERT INTO t VALUES (1 / 0)", "class 4", asItWas},
		{"INSERT INTO e VALUES (1 / 0, 1), (1)", "class 4", asItWas},
		{"INSERT INTO e VALUES (1 / 0, 'x')", "class 4", asItWas},
		{"INSERT INTO e VALUES (1 / 0, a)", "class 3", asItWas},
		{"INSERT INTO e VALUES (1, COUNT(*))", "class 4", asItWas},
		{"INSERT INTO t VALUES (1, 1, 'x', 1)", "class 4", asItWas},
		{"UPDATE zz SET a = 1", "class 3", asItWas},
		{"UPDATE t SET zz = 1 / 0", "class 3", asItWas},
		{"UPDATE t SET b = 1 / 0, b = 2", "class 3", asItWas},
		{"UPDATE t SET b = 'x' WHERE 1 / 0 = 1", "class 4", asItWas},
		{"UPDATE t SET b = e.a", "class 3", asItWas},
		{"UPDATE t SET b = 1 / 0 WHERE b", "class 4", asItWas},
		{"UPDATE t SET b = 1 / 0 WHERE zz = 1", "class 3", asItWas},
		{"UPDATE t SET b = MAX(a)", "class 4", asItWas},
		{"DELETE FROM zz", "class 3", asItWas},
		{"DELETE FROM t WHERE 1 / 0 = zz", "class 3", asItWas},
		{"DELETE FROM t WHERE 1 / 0", "class 4", asItWas},
		{"DELETE FROM e WHERE a = 'x'", "class 4", asItWas},
		{"CREATE TABLE t (a INT)", "class 3", asItWas},
		{"CREATE TABLE i (a INT)", "class 3", asItWas},
		{"CREATE TABLE z (a INT, a INT)", "class 3", asItWas},
		{"CREATE TABLE z (a INT, b INT, c INT, d INT, e INT, f INT, g INT)", "class 2", asItWas},
		{"CREATE INDEX i ON e (a)", "class 3", asItWas},
		{"CREATE INDEX z ON e (zz)", "class 3", asItWas},
		{"CREATE UNIQUE INDEX z ON t (b, zz)", "class 3", asItWas},
		{"DROP TABLE zz", "class 3", asItWas},
		{"DROP TABLE i", "class 3", asItWas},
		{"DROP INDEX t", "class 3", asItWas},
	}.run(t, "P17.1")
}

// TestNoStatement: P17.1: an ErrForm of what is none, or was told by resolve already; nothing is changed.
func TestNoStatement(t *testing.T) {
	toldInsert, toldUpdate, toldDelete := statement(t, "INSERT INTO e VALUES (1, 2)"), statement(t, "UPDATE e SET a = b"), statement(t, "DELETE FROM e WHERE a = 1")
	toldInsert.Rows[0][1].Type = api.Int
	toldUpdate.Sets[0].Expr.At = 1
	toldDelete.Where.Type = api.Bool
	both := statement(t, "DELETE FROM t")
	both.Sets = []api.Set{{Name: "b", Expr: constant(null)}}
	insertWhere := statement(t, "INSERT INTO e VALUES (1, 2)")
	insertWhere.Where = constant(yes)
	for _, x := range []api.Stmt{
		{}, {Kind: -1}, {Kind: 9}, {Kind: api.SInsert}, {Kind: api.SUpdate}, {Kind: api.SDelete}, {Kind: api.SSelect}, {Kind: api.SCreate}, {Kind: api.SIndex}, {Kind: api.SDrop}, {Kind: api.SUnindex},
		{Kind: api.SInsert, Name: "e"}, {Kind: api.SInsert, Name: "e", Rows: [][]api.Expr{{}}}, {Kind: api.SUpdate, Name: "t"}, {Kind: api.SDelete, Name: "T"},
		{Kind: api.SDelete, Name: "t", Limit: -1}, {Kind: api.SDelete, Name: "t", Where: node(api.EAgg, api.ASum)},
		{Kind: api.SUpdate, Name: "t", Sets: []api.Set{{Name: "b"}}},
		toldInsert, toldUpdate, toldDelete, both, insertWhere,
	} {
		if a, c := hold(t, store(t), x); c != api.ErrForm {
			t.Errorf("P17.1: %+v: %s", x, say(a, c))
		}
	}
	for sql, want := range map[string]api.Class{"SELECT 1 FROM t": api.ErrName, "DELETE FROM t": api.ErrName, "DROP TABLE t": api.ErrName, "CREATE TABLE t (a INT)": 0} {
		if a, c := hold(t, &table.Store{}, statement(t, sql)); c != want {
			t.Errorf("P17.1: %s of a store of no New: %s", sql, say(a, c))
		}
	}
}

// TestQuestions: P17.1: what exec.Query tells; nothing is changed.
func TestQuestions(t *testing.T) {
	cases{
		{"SELECT a, b AS n, 1 FROM t WHERE b = 5 ORDER BY a DESC", "a n col3: 4 5 1, 1 5 1", asItWas},
		{"SELECT COUNT(*), SUM(b) FROM t", "col1 col2: 4 10", asItWas},
		{"SELECT a FROM e", "a: ", asItWas},
		{"SELECT s FROM t WHERE s IS NOT NULL ORDER BY s", "s: 'x', 'y'", asItWas},
		{"SELECT 1 / b FROM t LIMIT 0", "class 7", asItWas},
		{"SELECT SUM(g) FROM n", "class 6", asItWas},
		{"SELECT a FROM t WHERE 1 / b = 0", "class 7", asItWas},
	}.run(t, "P17.1")
	x := sixty(t)
	for _, c := range []struct{ sql, want string }{
		{"CREATE TABLE u (b INT)", "0"}, {"INSERT INTO u VALUES (1), (2), (3), (4), (5), (6)", "6"},
		{"SELECT COUNT(*) FROM t JOIN t o ON TRUE JOIN u ON TRUE", "class 2"}, {"SELECT COUNT(*) FROM t JOIN t o ON TRUE", "col1: 3600"},
	} {
		if a, class := hold(t, x, statement(t, c.sql)); say(a, class) != c.want {
			t.Errorf("P17.1: %s: %s, want %s", c.sql, say(a, class), c.want)
		}
	}
}

// TestDefinitions: P17.1: table.Define; the Answer is zero.
func TestDefinitions(t *testing.T) {
	x := store(t)
	for _, c := range []struct{ sql, want, names string }{
		{"CREATE TABLE z (a INT, b TEXT)", "0", "t n e z"},
		{"INSERT INTO z VALUES (1, 'x'), (1, 'y'), (NULL, 'x')", "3", "t n e z"},
		{"CREATE UNIQUE INDEX za ON z (a)", "class 5", "t n e z"},
		{"CREATE INDEX za ON z (a)", "0", "t n e z"},
		{"CREATE UNIQUE INDEX zab ON z (a, b)", "0", "t n e z"},
		{"INSERT INTO z VALUES (1, 'x')", "class 5", "t n e z"},
		{"INSERT INTO z VALUES (NULL, 'x')", "1", "t n e z"},
		{"DROP INDEX zab", "0", "t n e z"},
		{"INSERT INTO z VALUES (1, 'x')", "1", "t n e z"},
		{"CREATE UNIQUE INDEX zab ON z (a, b)", "class 5", "t n e z"},
		{"DROP INDEX zab", "class 3", "t n e z"},
		{"DROP TABLE n", "0", "t e z"},
		{"CREATE TABLE n (b INT)", "0", "t e z n"},
		{"SELECT COUNT(*) FROM n", "col1: 0", "t e z n"},
		{"CREATE INDEX j ON n (b)", "0", "t e z n"},
		{"CREATE TABLE k (a INT)", "0", "t e z n k"},
		{"CREATE TABLE l (a INT)", "0", "t e z n k l"},
		{"CREATE TABLE m (a INT)", "class 2", "t e z n k l"},
		{"DROP TABLE t", "0", "e z n k l"},
		{"SELECT a, b FROM z WHERE a = 1 ORDER BY b DESC", "a b: 1 'y', 1 'x', 1 'x'", "e z n k l"},
		{"UPDATE l SET a = 1", "0", "e z n k l"},
	} {
		a, class := hold(t, x, statement(t, c.sql))
		var names []string
		for _, t := range x.Schema().Tables {
			names = append(names, t.Name)
		}
		if got := say(a, class); got != c.want || strings.Join(names, " ") != c.names {
			t.Errorf("P17.1: %s: %s, %s, want %s, %s", c.sql, got, names, c.want, c.names)
		}
	}
}

// TestRunReads: P17.2: parse.Parse's error, with its place; nothing is changed.
func TestRunReads(t *testing.T) {
	for _, c := range []struct {
		sql  string
		want api.Class
		at   int
	}{
		{"", api.ErrSyntax, 0},
		{"SELEC", api.ErrSyntax, 0},
		{"DELETE FROM t WHERE", api.ErrSyntax, 19},
		{"DELETE FROM t; DELETE FROM e", api.ErrSyntax, 15},
		{"INSERT INTO e VALUES (1, 2) (3, 4)", api.ErrSyntax, 28},
		{"UPDATE t SET b = 9223372036854775808", api.ErrLimit, 17},
		{"INSERT INTO e VALUES (1, 2" + strings.Repeat(", 3", 9) + ")", api.ErrLimit, 52},
		{"DELETE FROM t" + strings.Repeat(" ", api.MaxSQL), api.ErrLimit, 0},
		{"DELETE FROM t WHERE s = 'x", api.ErrSyntax, 24},
		{"\xff", api.ErrSyntax, 0},
	} {
		x := store(t)
		was := stateOf(x)
		a, err := change.Run(x, c.sql)
		_, class := answered(t, a, err)
		_, first := parse.Parse(c.sql)
		var p, want *api.Placed
		if class != c.want || !errors.As(err, &p) || !errors.As(first, &want) || p.At != want.At || p.At != c.at {
			t.Errorf("P17.2: %.40q: %v, want class %d at %d", c.sql, err, c.want, c.at)
		}
		if !equal(stateOf(x), was) {
			t.Errorf("P17.2: %.40q: the store has changed", c.sql)
		}
	}
}

// TestRun: P17.2: else what Do tells of what the text says.
func TestRun(t *testing.T) {
	x := table.New()
	for _, c := range []struct{ sql, want, then string }{
		{"create table T (A int primary key, b text) ;", "0", "t: next 1"},
		{"INSERT INTO t VALUES (1, 'it''s'), (-9223372036854775808, NULL)", "2", "t: 1 (1, 'it''s'), 2 (-9223372036854775808, NULL), next 3"},
		{"UPDATE t SET a = - a WHERE a < 0", "class 6", "t: 1 (1, 'it''s'), 2 (-9223372036854775808, NULL), next 3"},
		{"UPDATE t SET a = a + 1 WHERE a BETWEEN -9223372036854775808 AND 1;", "2", "t: 1 (2, 'it''s'), 2 (-9223372036854775807, NULL), next 3"},
		{"SELECT * FROM t -- all of them", "a b: 2 'it''s', -9223372036854775807 NULL", "t: 1 (2, 'it''s'), 2 (-9223372036854775807, NULL), next 3"},
		{"INSERT INTO t VALUES (2, 'x')", "class 5", "t: 1 (2, 'it''s'), 2 (-9223372036854775807, NULL), next 3"},
		{"SELECT zz FROM t", "class 3", "t: 1 (2, 'it''s'), 2 (-9223372036854775807, NULL), next 3"},
		{"DELETE FROM t WHERE b IS NULL", "1", "t: 1 (2, 'it''s'), next 3"},
		{"DROP TABLE t", "0", ""},
		{"DROP TABLE t", "class 3", ""},
	} {
		a, err := change.Run(x, c.sql)
		a, class := answered(t, a, err)
		if got := say(a, class); got != c.want || stateOf(x).say() != c.then {
			t.Errorf("P17.2: %s: %s, then %s, want %s, %s", c.sql, got, stateOf(x).say(), c.want, c.then)
		}
	}
}

// TestSteps: each step's error is wrapped with the step that it is of, and with the row and the column.
func TestSteps(t *testing.T) {
	for sql, want := range map[string]string{
		"SELEC":                                                        "text",
		"SELECT zz FROM t":                                             "names",
		"UPDATE t SET b = 'x'":                                         "names",
		"SELECT 1 / b FROM t":                                          "question",
		"CREATE UNIQUE INDEX z ON t (b)":                               "definition",
		"INSERT INTO e VALUES (1, 1), (1, 1 / 0)":                      "VALUES: row 2: b",
		"INSERT INTO e (b, a) VALUES (1, 1 / 0)":                       "VALUES: row 1: a",
		"UPDATE t SET b = 7 WHERE 1 / b = 0":                           "WHERE: row 2",
		"DELETE FROM t WHERE 1 / (a - 3) = 0":                          "WHERE: row 3",
		"UPDATE t SET s = 'z', b = 1 / (a - 4)":                        "SET: row 4: b",
		"UPDATE n SET z = 1 / g, g = g + 1":                            "SET: row 3: g",
		"UPDATE t SET b = 1 / 0, a = 1 % 0":                            "SET: row 1: b",
		"UPDATE t SET a = 1":                                           "write: t",
		"INSERT INTO t VALUES (8, 8, NULL, FALSE), (8, 9, NULL, TRUE)": "write: t",
	} {
		_, err := change.Run(store(t), sql)
		for _, part := range strings.Split(want, ": ") {
			w, ok := err.(*api.Within)
			if !ok || w.Part != part {
				t.Fatalf("%s: %v, want %s", sql, err, want)
			}
			err = w.Err
		}
	}
}
