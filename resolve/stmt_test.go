package resolve_test

import (
	"testing"

	"consistory/api"
	"consistory/catalog"
	"consistory/tree"
)

// wantTold: each statement is told so, and is the same but for that.
func wantTold(t *testing.T, l map[string]string) {
	t.Helper()
	s := schema(t)
	for sql, want := range l {
		out, c := stmt(t, s, statement(t, sql))
		if c != 0 || showStmt(out) != want {
			t.Errorf("P13.2: %s: class %d, %s, want %s", sql, c, showStmt(out), want)
		}
	}
}

func TestDefinitions(t *testing.T) {
	s := schema(t)
	for sql, want := range map[string]api.Class{
		"CREATE TABLE z (a INT NOT NULL, b TEXT UNIQUE, PRIMARY KEY (a, b))": 0,
		"CREATE INDEX l ON t (a, b)":                                         0,
		"CREATE UNIQUE INDEX l ON w (u)":                                     0,
		"DROP TABLE w":                                                       0,
		"DROP INDEX i":                                                       0,
		"CREATE TABLE t (a INT)":                                             api.ErrName,
		"CREATE TABLE i (a INT)":                                             api.ErrName,
		"CREATE TABLE z (a INT, a INT)":                                      api.ErrName,
		"CREATE INDEX i ON u (a)":                                            api.ErrName,
		"CREATE INDEX l ON z (a)":                                            api.ErrName,
		"CREATE INDEX l ON t (z)":                                            api.ErrName,
		"DROP TABLE z":                                                       api.ErrName,
		"DROP INDEX t":                                                       api.ErrName,
		"CREATE TABLE z (a INT, " + row(5, "UNIQUE (a)") + ")":               api.ErrLimit,
		"CREATE TABLE z (a INT, " + row(5, "UNIQUE (zz)") + ")":              api.ErrName,
	} {
		x := statement(t, sql)
		out, c := stmt(t, s, x)
		if _, err := catalog.Apply(s, x); c != want || c != class(t, err) {
			t.Errorf("P13.2: %s: class %d, want %d, %v", sql, c, want, err)
		}
		if c == 0 && !equal(out, x) {
			t.Errorf("P13.2: %s: %+v", sql, out)
		}
	}
}

func TestInsert(t *testing.T) {
	wantTold(t, map[string]string{
		"INSERT INTO t VALUES (1, 'x', TRUE), (NULL, NULL, NULL)":      "(a, b, c); ROW 1:I 'x':T TRUE:B; ROW NULL:0 NULL:0 NULL:0",
		"INSERT INTO t VALUES (1 + 1, 'x' || 'y', 1 = 2)":              "(a, b, c); ROW (+ 1:I 1:I):I (|| 'x':T 'y':T):T (= 1:I 2:I):B",
		"INSERT INTO t (b, a) VALUES ('x', 1)":                         "(b, a); ROW 'x':T 1:I",
		"INSERT INTO t (c) VALUES (NULL), (TRUE), (NOT NULL)":          "(c); ROW NULL:0; ROW TRUE:B; ROW (NOT NULL:0):B",
		"INSERT INTO t (a, b, c) VALUES (NULL, NULL, NULL)":            "(a, b, c); ROW NULL:0 NULL:0 NULL:0",
		"INSERT INTO v VALUES (FALSE, CASE WHEN TRUE THEN NULL END)":   "(y, z); ROW FALSE:B (CASE TRUE:B NULL:0):0",
		"INSERT INTO w VALUES (1, 2, 3, 4, 5, 6)":                      "(p, q, r, s, t, u); ROW 1:I 2:I 3:I 4:I 5:I 6:I",
		"INSERT INTO w (u, t, s, r, q, p) VALUES (1, 2, 3, 4, 5, - 6)": "(u, t, s, r, q, p); ROW 1:I 2:I 3:I 4:I 5:I -6:I",
	})
	wantClasses(t, "P13.2", api.ErrName,
		"INSERT INTO z VALUES (1)",
		"INSERT INTO i VALUES (1)",
		"INSERT INTO z (zz, zz) VALUES ('x' + 1)",
		"INSERT INTO t (a, z) VALUES (1, 2)",
		"INSERT INTO t (a, x) VALUES (1, 2)",
		"INSERT INTO t (a, a) VALUES (1, 2)",
		"INSERT INTO t (a, b, a) VALUES (1, 'x', 2)",
		"INSERT INTO t (a, z) VALUES (1)",
		"INSERT INTO t (a, b, b) VALUES ('x', 1)",
		"INSERT INTO t VALUES (1, 'x', q)",
		"INSERT INTO t VALUES (a, 'x', TRUE)",
		"INSERT INTO t VALUES (t.a, 'x', TRUE)",
		"INSERT INTO t (a) VALUES (1), (a)",
		"INSERT INTO t (a) VALUES (COUNT(a))",
		"INSERT INTO t VALUES (1 + a, 1, 1)",
		"INSERT INTO t VALUES (1, b, 1)",
	)
	wantClasses(t, "P13.2", api.ErrType,
		"INSERT INTO t (b, a) VALUES (1, 'x')",
		"INSERT INTO t VALUES (1, 'x')",
		"INSERT INTO t VALUES (1, 'x', TRUE, 1)",
		"INSERT INTO t VALUES (1, 'x', TRUE), (1, 'x')",
		"INSERT INTO t VALUES (1, 'x'), (1, 'x', TRUE)",
		"INSERT INTO t (a) VALUES (1, 2)",
		"INSERT INTO t (a, b) VALUES (1)",
		"INSERT INTO w VALUES ("+row(10, "1")+")",
		"INSERT INTO t VALUES (1, 'x', 1)",
		"INSERT INTO t VALUES (TRUE, 'x', TRUE)",
		"INSERT INTO t VALUES (1, 'x', TRUE), (1, 2, TRUE)",
		"INSERT INTO t VALUES (COUNT(*), 'x', TRUE)",
		"INSERT INTO t VALUES ('x' + 1, 'x', TRUE)",
		"INSERT INTO t VALUES (zz, 'x', TRUE), (1)",
		"INSERT INTO t (a) VALUES (zz), (1, 2)",
		"INSERT INTO t VALUES ('x', zz, TRUE)",
		"INSERT INTO t (a) VALUES ('x'), (zz)",
	)
}

func TestUpdate(t *testing.T) {
	wantTold(t, map[string]string{
		"UPDATE t SET a = a + 1, b = 'x' WHERE c":       "SET a (+ a@0:I 1:I):I; SET b 'x':T; WHERE c@2:B",
		"UPDATE t SET a = t.a, c = t.c OR c":            "SET a t.a@0:I; SET c (OR t.c@2:B c@2:B):B",
		"UPDATE t SET a = NULL WHERE NULL":              "SET a NULL:0; WHERE NULL:0",
		"UPDATE t SET c = a = 1, a = 2 WHERE t.b = b":   "SET c (= a@0:I 1:I):B; SET a 2:I; WHERE (= t.b@1:T b@1:T):B",
		"UPDATE w SET t = w.u, u = t WHERE w.t > u + 1": "SET t w.u@5:I; SET u t@4:I; WHERE (> w.t@4:I (+ u@5:I 1:I):I):B",
	})
	wantClasses(t, "P13.2", api.ErrName,
		"UPDATE z SET a = 'x' + 1",
		"UPDATE t SET z = 1",
		"UPDATE t SET x = 1",
		"UPDATE t SET t = 1",
		"UPDATE t SET a = 1, a = 2",
		"UPDATE t SET a = 1, b = 'x', a = 2",
		"UPDATE t SET a = z.a",
		"UPDATE t SET a = u.a",
		"UPDATE t SET a = zz",
		"UPDATE t SET a = t.zz",
		"UPDATE t SET a = 1 WHERE zz",
		"UPDATE t SET a = 1 WHERE u.c = 'x'",
		"UPDATE t SET z = 'x' + 1",
		"UPDATE t SET a = 1, a = 'x'",
		"UPDATE t SET a = zz, b = 1",
		"UPDATE t SET z = 1, a = 'x'",
		"UPDATE t SET a = zz WHERE 1",
		"UPDATE t SET a = SUM(zz)",
	)
	wantClasses(t, "P13.2", api.ErrType,
		"UPDATE t SET a = b",
		"UPDATE t SET a = 'x'",
		"UPDATE t SET c = a",
		"UPDATE t SET a = 1, b = 1",
		"UPDATE t SET a = 'x' + 1",
		"UPDATE t SET a = COUNT(*)",
		"UPDATE t SET a = SUM(a)",
		"UPDATE t SET a = 1 WHERE a",
		"UPDATE t SET a = 1 WHERE b || 'x'",
		"UPDATE t SET a = 1 WHERE COUNT(*) = 1",
		"UPDATE t SET a = 'x', z = 1",
		"UPDATE t SET a = 'x', a = 1",
		"UPDATE t SET a = 'x', b = zz",
		"UPDATE t SET a = 'x' WHERE zz",
	)
}

func TestDelete(t *testing.T) {
	wantTold(t, map[string]string{
		"DELETE FROM t":                              "",
		"DELETE FROM t WHERE NULL":                   "WHERE NULL:0",
		"DELETE FROM t WHERE b = 'x' AND t.c":        "WHERE (AND (= b@1:T 'x':T):B t.c@2:B):B",
		"DELETE FROM v WHERE v.z IS NULL":            "WHERE (NULL? v.z@1:I):B",
		"DELETE FROM u WHERE u.c IN (x, 'y', u.x)":   "WHERE (IN u.c@2:T x@1:T 'y':T u.x@1:T):B",
		"DELETE FROM v WHERE CASE WHEN y THEN y END": "WHERE (CASE y@0:B y@0:B):B",
	})
	wantClasses(t, "P13.2", api.ErrName, "DELETE FROM z", "DELETE FROM i", "DELETE FROM z WHERE 1", "DELETE FROM t WHERE zz", "DELETE FROM t WHERE u.a = 1", "DELETE FROM t WHERE b + zz = 1", "DELETE FROM t WHERE MAX(zz) = 1")
	wantClasses(t, "P13.2", api.ErrType, "DELETE FROM t WHERE a", "DELETE FROM t WHERE 'x'", "DELETE FROM t WHERE SUM(a) = 1", "DELETE FROM t WHERE COUNT(*) = 1", "DELETE FROM t WHERE a = b", "DELETE FROM t WHERE (a = b) OR zz")
}

// TestForm: what is no schema or no statement is told ahead of all else.
func TestForm(t *testing.T) {
	right := schema(t)
	wrong := deepCopy(right)
	wrong.Tables[1].Name = "t"
	for _, sql := range []string{"SELECT a FROM t", "SELECT zz FROM zz", "DROP TABLE t", "DROP TABLE z", "DELETE FROM t", "UPDATE t SET a = 'x'", "INSERT INTO t VALUES (zz)"} {
		x := statement(t, sql)
		for _, s := range []api.Schema{wrong, {Tables: make([]api.Table, 1)}, {Tables: make([]api.Table, 7)}} {
			if _, c := stmt(t, s, x); c != api.ErrForm {
				t.Errorf("P13.2: %s: class %d", sql, c)
			}
		}
		other := deepCopy(x)
		other.KeyCols = [][]string{{"a"}}
		if _, c := stmt(t, right, other); c != api.ErrForm {
			t.Errorf("P13.2: %s, spoilt: class %d", sql, c)
		}
		if _, c := stmt(t, api.Schema{}, x); c != api.ErrName {
			t.Errorf("P13.2: %s, of no tables: class %d", sql, c)
		}
	}
	for i, x := range []api.Stmt{{}, {Kind: -1}, {Kind: 9}, {Kind: api.SSelect}, {Kind: api.SDelete}, {Kind: api.SDelete, Name: "T"}, {Kind: api.SDelete, Name: "t", Limit: -1}} {
		if _, c := stmt(t, right, x); c != api.ErrForm {
			t.Errorf("P13.2: row %d: class %d", i, c)
		}
	}
}

// TestToldIsNoStatement: what was told is refused; without what was told of it, it is told again.
func TestToldIsNoStatement(t *testing.T) {
	s := schema(t)
	for _, sql := range []string{"SELECT *, a AS y FROM t WHERE c", "DELETE FROM t WHERE c", "UPDATE t SET a = 1", "INSERT INTO t VALUES (1, 'x', TRUE)", "SELECT c, MAX(b) FROM t GROUP BY c ORDER BY COUNT(*)"} {
		first, _ := stmt(t, s, statement(t, sql))
		if _, c := stmt(t, s, first); c != api.ErrForm {
			t.Errorf("P13.2: %s: class %d", sql, c)
		}
		if again, c := stmt(t, s, tree.Bare(first)); c != 0 || !equal(again, first) {
			t.Errorf("P13.2: %s: class %d, %s, want %s", sql, c, showStmt(again), showStmt(first))
		}
	}
}
