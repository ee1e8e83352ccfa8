package resolve_test

import (
	"errors"
	"testing"
	"unsafe"

	"consistory/api"
	"consistory/resolve"
)

// wrapped tells what an error is wrapped with, from outside, and its class.
func wrapped(err error) string {
	var w *api.Within
	if !errors.As(err, &w) {
		return err.Error()
	}
	return w.Part + ": " + wrapped(w.Err)
}

func wantWrapped(t *testing.T, label string, err error, want string) {
	t.Helper()
	if err == nil || wrapped(err) != want || err.Error() != want {
		t.Errorf("%s: %v, want %s", label, err, want)
	}
}

// TestErrorsTellTheirClause: and within it the name that is wrong, if there is one.
func TestErrorsTellTheirClause(t *testing.T) {
	for sql, want := range map[string]string{
		"CREATE TABLE t (a INT)":                             "definition: t: class 3",
		"CREATE INDEX l ON t (a, zz)":                        "definition: t: zz: class 3",
		"INSERT INTO zz VALUES (1)":                          "table: zz: class 3",
		"UPDATE zz SET a = 1":                                "table: zz: class 3",
		"DELETE FROM zz":                                     "table: zz: class 3",
		"INSERT INTO t (a, zz) VALUES (1, 2)":                "columns: zz: class 3",
		"INSERT INTO t (a, a) VALUES (1, 2)":                 "columns: a: class 3",
		"INSERT INTO t VALUES (1, 2)":                        "VALUES: class 4",
		"INSERT INTO t VALUES (1, 2, TRUE)":                  "VALUES: b: class 4",
		"INSERT INTO t VALUES (1, 2 + zz, TRUE)":             "VALUES: zz: class 3",
		"UPDATE t SET zz = 1":                                "SET: zz: class 3",
		"UPDATE t SET b = 'x', a = 'x'":                      "SET: a: class 4",
		"UPDATE t SET b = 'x', a = 1 + u.a":                  "SET: u.a: class 3",
		"UPDATE t SET a = 1 WHERE a":                         "WHERE: class 4",
		"DELETE FROM t WHERE zz = 1":                         "WHERE: zz: class 3",
		"SELECT 1 FROM t JOIN zz ON 1":                       "FROM: zz: class 3",
		"SELECT 1 FROM t x JOIN u x ON 1":                    "FROM: x: class 3",
		"SELECT 1 FROM t JOIN u ON 1":                        "JOIN: class 4",
		"SELECT 1 FROM t JOIN u ON TRUE JOIN v ON t.zz":      "JOIN: t.zz: class 3",
		"SELECT 1 FROM t WHERE a":                            "WHERE: class 4",
		"SELECT 1 FROM t GROUP BY 1":                         "GROUP BY: class 4",
		"SELECT 1 FROM t GROUP BY zz":                        "GROUP BY: zz: class 3",
		"SELECT 1 FROM t HAVING c":                           "HAVING: c: class 4",
		"SELECT 1 FROM t HAVING 1":                           "HAVING: class 4",
		"SELECT a, t.b FROM t GROUP BY a":                    "items: t.b: class 4",
		"SELECT 1, * FROM t GROUP BY a":                      "items: *: class 4",
		"SELECT a + b FROM t":                                "items: class 4",
		"SELECT *, *, *, p FROM w":                           "items: class 2",
		"SELECT 1 FROM t ORDER BY - (- (- (- (1 + zz))))":    "ORDER BY: zz: class 3",
		"SELECT DISTINCT 1 FROM t ORDER BY 2":                "ORDER BY: class 4",
		"SELECT a FROM t JOIN u ON t.a = u.a":                "items: a: class 3",
		"SELECT *, *, *, p FROM w WHERE p = 1 ORDER BY w.zz": "ORDER BY: w.zz: class 3",
	} {
		_, err := resolve.Stmt(schema(t), statement(t, sql))
		wantWrapped(t, sql, err, want)
	}
	_, err := resolve.Stmt(api.Schema{Tables: make([]api.Table, 1)}, statement(t, "DROP TABLE t"))
	wantWrapped(t, "no schema", err, "schema: class 20")
	_, err = resolve.Stmt(schema(t), api.Stmt{})
	wantWrapped(t, "no statement", err, "statement: class 20")
	_, err = resolve.Expr(nil, api.Expr{})
	wantWrapped(t, "no expression", err, "expression: class 20")
	_, err = resolve.Expr(make([]api.Column, 65), number(1))
	wantWrapped(t, "too many columns", err, "columns: class 20")
	_, err = resolve.Expr(nil, col("a"))
	wantWrapped(t, "no column", err, "expression: a: class 3")
}

// TestErrorsKeepNothing: the name that is told isn't the one that was handed in.
func TestErrorsKeepNothing(t *testing.T) {
	x := statement(t, "DELETE FROM nowhere")
	_, err := resolve.Stmt(schema(t), x)
	var w *api.Within
	if !errors.As(err, &w) || !errors.As(w.Err, &w) || w.Part != "nowhere" || unsafe.StringData(w.Part) == unsafe.StringData(x.Name) {
		t.Errorf("rule 3: %v", err)
	}
}
