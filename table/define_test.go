package table_test

import (
	"testing"

	"consistory/api"
	"consistory/table"
)

// TestDefine: what becomes of tables and rows.
func TestDefine(t *testing.T) {
	const (
		first  = richT + richRowsT
		second = richU + richRowsU
		third  = "v a BOOL 1(NULL) 2(TRUE) /3"
	)
	for sql, want := range map[string]string{
		"CREATE TABLE w (a INT PRIMARY KEY, b TEXT)": richShown + "; w a INT!, b TEXT, P(0) /1",
		"DROP TABLE t":                      second + "; " + third,
		"DROP TABLE u":                      first + "; " + third,
		"DROP TABLE v":                      first + "; " + second,
		"DROP INDEX i":                      "t a INT!, b TEXT, c BOOL!, P(0), U(1), Uj(1 2)" + richRowsT + "; " + second + "; " + third,
		"DROP INDEX j":                      "t a INT!, b TEXT, c BOOL!, P(0), U(1), i(2 0)" + richRowsT + "; " + second + "; " + third,
		"DROP INDEX k":                      first + "; u x INT, y TEXT, U(1 0)" + richRowsU + "; " + third,
		"CREATE INDEX l ON u (y)":           first + "; " + richU + ", l(1)" + richRowsU + "; " + third,
		"CREATE UNIQUE INDEX l ON u (x, y)": first + "; " + richU + ", Ul(0 1)" + richRowsU + "; " + third,
		"CREATE UNIQUE INDEX l ON v (a)":    first + "; " + second + "; v a BOOL, Ul(0) 1(NULL) 2(TRUE) /3",
	} {
		x := rich(t)
		if c := define(t, x, statement(t, sql)); c != 0 || show(x) != want {
			t.Errorf("P12.2: %s: class %d, %s, want %s", sql, c, show(x), want)
		}
	}
}

// TestDefineErrs as catalog.Apply does.
func TestDefineErrs(t *testing.T) {
	for sql, want := range map[string]api.Class{
		"CREATE TABLE t (a INT)":            api.ErrName,
		"CREATE TABLE i (a INT)":            api.ErrName,
		"CREATE TABLE w (a INT, a INT)":     api.ErrName,
		"CREATE INDEX l ON w (a)":           api.ErrName,
		"CREATE INDEX i ON u (x)":           api.ErrName,
		"CREATE UNIQUE INDEX l ON u (z)":    api.ErrName,
		"CREATE UNIQUE INDEX l ON u (x, x)": api.ErrName,
		"DROP TABLE w":                      api.ErrName,
		"DROP TABLE i":                      api.ErrName,
		"DROP INDEX l":                      api.ErrName,
		"DROP INDEX t":                      api.ErrName,
		"CREATE INDEX l ON t (a)":           api.ErrLimit,
		"CREATE UNIQUE INDEX l ON t (c)":    api.ErrLimit,
		"CREATE TABLE w (a INT, b INT, c INT, d INT, e INT, f INT, g INT)": api.ErrLimit,
		"SELECT a FROM t":             api.ErrForm,
		"INSERT INTO v VALUES (TRUE)": api.ErrForm,
		"UPDATE v SET a = TRUE":       api.ErrForm,
		"DELETE FROM v":               api.ErrForm,
	} {
		if c := define(t, rich(t), statement(t, sql)); c != want {
			t.Errorf("P12.2: %s: class %d, want %d", sql, c, want)
		}
	}
	for i, s := range []api.Stmt{{}, {Kind: -1}, {Kind: 9}, {Kind: api.SCreate}, {Kind: api.SDrop, Name: "T"}, {Kind: api.SIndex, Index: "l", Name: "u", Unique: true}, {Kind: api.SUnindex}} {
		if c := define(t, rich(t), s); c != api.ErrForm {
			t.Errorf("P12.2: row %d: class %d", i, c)
		}
	}
}

// TestDefineTablesToTheLast: six of them, then none until one is gone.
func TestDefineTablesToTheLast(t *testing.T) {
	x := rich(t)
	for _, name := range []string{"w", "x", "y"} {
		if c := define(t, x, statement(t, "CREATE TABLE "+name+" (a INT)")); c != 0 {
			t.Fatalf("P12.2: class %d", c)
		}
	}
	wantWrite(t, x, 5, nil, nil, made(vals(num(5))))
	if c := define(t, x, statement(t, "CREATE TABLE z (a INT)")); c != api.ErrLimit {
		t.Errorf("P12.2: class %d", c)
	}
	if c := define(t, x, statement(t, "DROP TABLE u")); c != 0 || tell(t, x, 4, api.Way{Key: -1}) != "1" || x.Count(5) != 0 {
		t.Errorf("P12.2: class %d, %s", c, show(x))
	}
	if c := define(t, x, statement(t, "CREATE TABLE u (a INT)")); c != 0 || x.Count(5) != 0 || x.Data().Next[5] != 1 {
		t.Errorf("P12.2: class %d, %s", c, show(x))
	}
}

// TestDefineUnique: which rows a Unique index may be made of.
func TestDefineUnique(t *testing.T) {
	for _, c := range []struct {
		cols string
		rows [][]api.Value
		want api.Class
	}{
		{"a", nil, 0},
		{"a", made(vals(num(1), text("x"))), 0},
		{"a", made(vals(num(1), text("x")), vals(num(1), text("y"))), api.ErrConstraint},
		{"b", made(vals(num(1), text("x")), vals(num(1), text("y"))), 0},
		{"a, b", made(vals(num(1), text("x")), vals(num(1), text("y"))), 0},
		{"b, a", made(vals(num(1), text("x")), vals(num(2), text("x")), vals(num(1), text("x"))), api.ErrConstraint},
		{"a", made(vals(null, text("x")), vals(null, text("x"))), 0},
		{"a, b", made(vals(null, text("x")), vals(null, text("x"))), 0},
		{"a, b", made(vals(num(1), null), vals(num(1), null), vals(null, null), vals(null, null)), 0},
		{"a, b", made(vals(num(1), null), vals(num(1), text("")), vals(num(1), null), vals(num(1), text(""))), api.ErrConstraint},
		{"a", made(vals(num(0), null), vals(null, null), vals(num(0), null)), api.ErrConstraint},
		{"b", made(vals(null, text("a")), vals(null, text("ab")), vals(null, text("")), vals(null, text("abc"))), 0},
	} {
		x := store(t, "CREATE TABLE s (a BOOL)", "CREATE TABLE t (a INT, b TEXT)")
		wantWrite(t, x, 1, nil, nil, c.rows)
		if got := define(t, x.Clone(), statement(t, "CREATE INDEX i ON t ("+c.cols+")")); got != 0 {
			t.Errorf("P12.2: %v: class %d of an index that isn't Unique", c.rows, got)
		}
		got := define(t, x, statement(t, "CREATE UNIQUE INDEX i ON t ("+c.cols+")"))
		if keys := len(x.Schema().Tables[1].Keys); got != c.want || (keys == 1) != (got == 0) {
			t.Errorf("P12.2: %s of %v: class %d, want %d; %d keys", c.cols, c.rows, got, c.want, keys)
		}
	}
}

// TestDefinedKeysHold: a new key tells the rows that were there, and holds for those that come; one that is gone doesn't; those behind it are one number less.
func TestDefinedKeysHold(t *testing.T) {
	x := rich(t)
	if c := define(t, x, statement(t, "CREATE UNIQUE INDEX l ON u (y, x)")); c != 0 {
		t.Fatalf("P12.2: class %d", c)
	}
	wantWrite(t, x, 1, rows(row(4, num(2), text("a"))), ids(8), nil)
	if got := tell(t, x, 1, eq(2, text("a"))); got != "1 2 3 4" {
		t.Errorf("P12.2: %s", got)
	}
	if c := define(t, x, statement(t, "DROP INDEX k")); c != 0 {
		t.Fatalf("P12.2: class %d", c)
	}
	if got := tell(t, x, 1, eq(1, text("a"))); got != "1 2 3 4" {
		t.Errorf("P12.2: %s", got)
	}
	if got := tell(t, x, 1, eq(2, num(1))); got != "class 20" {
		t.Errorf("P12.2: %s", got)
	}
	if c := write(t, x, 1, nil, nil, made(vals(num(2), text("a")))); c != api.ErrConstraint {
		t.Errorf("P12.3: class %d", c)
	}
	if c := define(t, x, statement(t, "DROP INDEX i")); c != 0 {
		t.Fatalf("P12.2: class %d", c)
	}
	if got := tell(t, x, 0, eq(2, text("x"), truth(true))); got != "1" {
		t.Errorf("P12.2: %s", got)
	}
	y := store(t, "CREATE TABLE t (a INT)", "CREATE UNIQUE INDEX i ON t (a)")
	wantWrite(t, y, 0, nil, nil, made(vals(num(1))))
	if c := write(t, y, 0, nil, nil, made(vals(num(1)))); c != api.ErrConstraint {
		t.Errorf("P12.3: class %d", c)
	}
	if c := define(t, y, statement(t, "DROP INDEX i")); c != 0 {
		t.Fatalf("P12.2: class %d", c)
	}
	wantWrite(t, y, 0, nil, nil, made(vals(num(1))))
	if c := define(t, y, statement(t, "CREATE UNIQUE INDEX i ON t (a)")); c != api.ErrConstraint {
		t.Errorf("P12.2: class %d", c)
	}
}

// TestDroppedRowsAreGone: a table of the name of a dropped one begins anew.
func TestDroppedRowsAreGone(t *testing.T) {
	x := rich(t)
	for _, sql := range []string{"DROP TABLE u", "CREATE TABLE u (x INT, y TEXT, UNIQUE (y, x))"} {
		if c := define(t, x, statement(t, sql)); c != 0 {
			t.Fatalf("P12.2: class %d", c)
		}
	}
	if want := richT + richRowsT + "; v a BOOL 1(NULL) 2(TRUE) /3; u x INT, y TEXT, U(1 0) /1"; show(x) != want {
		t.Errorf("P12.2: %s, want %s", show(x), want)
	}
	wantWrite(t, x, 2, nil, nil, made(vals(num(1), text("a"))))
	if got := tell(t, x, 2, eq(0, text("a"))); got != "1" {
		t.Errorf("P12.2: %s", got)
	}
}

// TestClonesAreDefinedApart: however many keys there are already, one's new key isn't the other one's.
func TestClonesAreDefinedApart(t *testing.T) {
	made := made(vals(num(1), text("b")), vals(num(2), text("a")))
	for n := range api.MaxKeys {
		x := store(t, "CREATE TABLE t (a INT, b TEXT)")
		for k := range n {
			if c := define(t, x, statement(t, "CREATE INDEX i"+string(rune('0'+k))+" ON t (a, b)")); c != 0 {
				t.Fatalf("P12.2: class %d", c)
			}
		}
		wantWrite(t, x, 0, nil, nil, made)
		again, err := table.Of(x.Schema(), x.Data())
		if err != nil {
			t.Fatal(err)
		}
		for _, x := range []*table.Store{x, again} {
			y := x.Clone()
			a, b := define(t, x, statement(t, "CREATE INDEX i ON t (a)")), define(t, y, statement(t, "CREATE INDEX j ON t (b)"))
			if a != 0 || b != 0 || tell(t, x, 0, eq(n, num(1))) != "1" || tell(t, y, 0, eq(n, text("a"))) != "2" {
				t.Errorf("P12.1: %d keys: classes %d, %d; %s; %s", n, a, b, tell(t, x, 0, eq(n, num(1))), tell(t, y, 0, eq(n, text("a"))))
			}
		}
	}
}
