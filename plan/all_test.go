package plan_test

import (
	"errors"
	"testing"

	"consistory/api"
	"consistory/plan"
	"consistory/resolve"
)

// TestErrors: P15.1: resolve's error ahead of ErrForm; Best's is All's.
func TestErrors(t *testing.T) {
	for sql, want := range map[string]api.Class{
		"SELECT zz FROM t":                               api.ErrName,
		"SELECT * FROM zz":                               api.ErrName,
		"SELECT * FROM t WHERE zz = 1":                   api.ErrName,
		"SELECT * FROM t JOIN u ON TRUE WHERE b = 1":     api.ErrName,
		"SELECT * FROM t WHERE a = 'x'":                  api.ErrType,
		"SELECT * FROM t WHERE a":                        api.ErrType,
		"SELECT *, *, *, * FROM t":                       api.ErrLimit,
		"UPDATE zz SET a = 1":                            api.ErrName,
		"UPDATE t SET a = 'x' WHERE a = 5":               api.ErrType,
		"UPDATE t SET a = 1 WHERE COUNT(*) = 1":          api.ErrType,
		"DELETE FROM zz WHERE a = 5":                     api.ErrName,
		"DELETE FROM t WHERE a = 5 AND c":                api.ErrType,
		"INSERT INTO t VALUES (1, 'x', TRUE, 2, 'y', q)": api.ErrName,
		"INSERT INTO u VALUES (1, 2)":                    api.ErrType,
		"INSERT INTO zz VALUES (1, 2)":                   api.ErrName,
		"DROP TABLE zz":                                  api.ErrName,
		"DROP INDEX t":                                   api.ErrName,
		"CREATE TABLE t (a INT)":                         api.ErrName,
		"CREATE INDEX z ON t (d)":                        api.ErrLimit,
		"INSERT INTO u VALUES (1, 2, 3)":                 api.ErrForm,
		"CREATE TABLE z (a INT)":                         api.ErrForm,
		"CREATE INDEX z ON u (y)":                        api.ErrForm,
		"DROP TABLE t":                                   api.ErrForm,
		"DROP INDEX i":                                   api.ErrForm,
	} {
		s, x := schema(t), statement(t, sql)
		if _, c := all(t, s, x); c != want {
			t.Errorf("P15.1: %s: class %d, want %d", sql, c, want)
		}
		w, err := plan.Best(s, x, 7)
		if c := class(t, err); c != want || !equal(w, api.Way{}) {
			t.Errorf("P15.4: %s: %v, class %d, want %d", sql, w, c, want)
		}
		if _, first := resolve.Stmt(s, x); first != nil && first.Error() != err.Error() {
			t.Errorf("P15.1: %s: %v, want %v", sql, err, first)
		}
	}
}

// TestWrongOnes: what is no schema, no statement.
func TestWrongOnes(t *testing.T) {
	good := statement(t, "SELECT * FROM t WHERE a = 5")
	bad := schema(t)
	bad.Tables[0].Keys[0].Cols[0] = 9
	none := deepCopy(good)
	none.From = nil
	odd := deepCopy(good)
	odd.Where.Args[0].At = 1
	aggregate := deepCopy(good)
	aggregate.Where.Args = nil
	for n, c := range []struct {
		s api.Schema
		x api.Stmt
	}{{bad, good}, {schema(t), none}, {schema(t), odd}, {schema(t), aggregate}, {schema(t), api.Stmt{}}, {schema(t), api.Stmt{Kind: 9}}, {schema(t), api.Stmt{Kind: -1}}, {schema(t), api.Stmt{Kind: api.SDelete}}} {
		if _, got := all(t, c.s, c.x); got != api.ErrForm {
			t.Errorf("P15.1: row %d: class %d", n, got)
		}
		if _, err := plan.Best(c.s, c.x, -1); class(t, err) != api.ErrForm {
			t.Errorf("P15.4: row %d: %v", n, err)
		}
	}
	if _, c := all(t, api.Schema{}, good); c != api.ErrName {
		t.Errorf("P15.1: no tables: class %d", c)
	}
}

// TestErrorsAreWrapped: with the clause that resolve tells; what isn't about rows with the statement.
func TestErrorsAreWrapped(t *testing.T) {
	for sql, want := range map[string]string{"DELETE FROM t WHERE zz = 1": "WHERE", "DROP TABLE u": "statement"} {
		_, err := plan.All(schema(t), statement(t, sql))
		var w *api.Within
		if !errors.As(err, &w) || w.Part != want {
			t.Errorf("%s: %v, want %s", sql, err, want)
		}
	}
}

// TestAllRows: P15.1: where there is nothing to go by, the way to all rows alone.
func TestAllRows(t *testing.T) {
	for _, sql := range []string{
		"SELECT * FROM t", "SELECT * FROM e WHERE a = 5 AND b = 1", "DELETE FROM t", "UPDATE t SET a = 1", "UPDATE e SET a = 1 WHERE a = 5",
		"SELECT COUNT(*) FROM t", "SELECT * FROM e JOIN t ON t.a = 5 WHERE t.a = 5", "SELECT * FROM t WHERE d = 'x' AND q AND p",
	} {
		if l := told(t, sql); len(l) != 1 {
			t.Errorf("P15.1: %s: %v", sql, l)
		}
	}
}

// TestMostWays: as many keys as may be, all of which are of use twice.
func TestMostWays(t *testing.T) {
	s := defined(t, "CREATE TABLE t (a INT NOT NULL, b INT NOT NULL, UNIQUE (a, b), UNIQUE (a, b), UNIQUE (a, b), UNIQUE (a, b))")
	l, c := all(t, s, statement(t, "SELECT * FROM t WHERE a = 1 AND b = 2"))
	if c != 0 || len(l) != 9 {
		t.Errorf("P15.1: class %d, %d ways", c, len(l))
	}
}
