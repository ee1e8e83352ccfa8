package catalog_test

import (
	"fmt"
	"math"
	"strings"
	"testing"

	"consistory/api"
	"consistory/catalog"
)

// TestCreate: what a statement makes where there is nothing yet.
func TestCreate(t *testing.T) {
	for sql, want := range map[string]string{
		"CREATE TABLE t (a INT PRIMARY KEY)":                                            "t a INT!, P(0)",
		"CREATE TABLE t (a INT)":                                                        "t a INT",
		"CREATE TABLE t (a INT, b TEXT, c BOOL)":                                        "t a INT, b TEXT, c BOOL",
		"CREATE TABLE t (a INT NOT NULL, b TEXT, c BOOL NOT NULL)":                      "t a INT!, b TEXT, c BOOL!",
		"CREATE TABLE t (t INT UNIQUE)":                                                 "t t INT, U(0)",
		"CREATE TABLE t (a INT PRIMARY KEY UNIQUE)":                                     "t a INT!, P(0), U(0)",
		"CREATE TABLE t (a INT NOT NULL PRIMARY KEY)":                                   "t a INT!, P(0)",
		"CREATE TABLE t (a INT UNIQUE, b INT PRIMARY KEY)":                              "t a INT, b INT!, U(0), P(1)",
		"CREATE TABLE t (a INT, PRIMARY KEY (c, a), b INT, c TEXT)":                     "t a INT!, b INT, c TEXT!, P(2 0)",
		"CREATE TABLE t (a INT, b INT, UNIQUE (b, a), UNIQUE (a, b), UNIQUE (b))":       "t a INT, b INT, U(1 0), U(0 1), U(1)",
		"CREATE TABLE t (a INT UNIQUE, UNIQUE (a), UNIQUE (a), UNIQUE (a))":             "t a INT, U(0), U(0), U(0), U(0)",
		"CREATE TABLE t (" + row(6, "c@ INT") + ", PRIMARY KEY (" + row(6, "c@") + "))": "t " + row(6, "c@ INT!") + ", P(0 1 2 3 4 5)",
	} {
		s, c := apply(t, api.Schema{}, statement(t, sql))
		if got := show(s); c != 0 || got != want {
			t.Errorf("P11.3: %s: class %d, %s, want %s", sql, c, got, want)
		}
	}
}

const richShown = "t a INT!, b TEXT, c BOOL!, P(0), U(1), i(2 0), Uj(1 2); u x INT!, y TEXT!, P(1 0), U(0), k(0); v a BOOL"

// TestApply: what a statement makes of the rich schema.
func TestApply(t *testing.T) {
	const (
		first  = "t a INT!, b TEXT, c BOOL!, P(0), U(1), i(2 0), Uj(1 2)"
		second = "u x INT!, y TEXT!, P(1 0), U(0), k(0)"
		third  = "v a BOOL"
	)
	if got := show(rich(t)); got != richShown {
		t.Fatalf("P11.3: %s, want %s", got, richShown)
	}
	for sql, want := range map[string]string{
		"CREATE TABLE w (a INT PRIMARY KEY)": richShown + "; w a INT!, P(0)",
		"CREATE TABLE a (t INT, i INT)":      richShown + "; a t INT, i INT",
		"CREATE INDEX l ON u (y, x)":         first + "; u x INT!, y TEXT!, P(1 0), U(0), k(0), l(1 0); " + third,
		"CREATE UNIQUE INDEX l ON v (a)":     first + "; " + second + "; v a BOOL, Ul(0)",
		"CREATE INDEX l ON u (x)":            first + "; u x INT!, y TEXT!, P(1 0), U(0), k(0), l(0); " + third,
		"CREATE INDEX a ON v (a)":            first + "; " + second + "; v a BOOL, a(0)",
		"CREATE INDEX x ON v (a)":            first + "; " + second + "; v a BOOL, x(0)",
		"DROP TABLE t":                       second + "; " + third,
		"DROP TABLE u":                       first + "; " + third,
		"DROP TABLE v":                       first + "; " + second,
		"DROP INDEX i":                       "t a INT!, b TEXT, c BOOL!, P(0), U(1), Uj(1 2); " + second + "; " + third,
		"DROP INDEX j":                       "t a INT!, b TEXT, c BOOL!, P(0), U(1), i(2 0); " + second + "; " + third,
		"DROP INDEX k":                       first + "; u x INT!, y TEXT!, P(1 0), U(0); " + third,
	} {
		s, c := apply(t, rich(t), statement(t, sql))
		if got := show(s); c != 0 || got != want {
			t.Errorf("P11.3: %s: class %d, %s, want %s", sql, c, got, want)
		}
	}
}

// TestNamesAreTold: ErrName, whatever else is wrong.
func TestNamesAreTold(t *testing.T) {
	for _, sql := range []string{
		"CREATE TABLE t (a INT)",
		"CREATE TABLE v (a INT)",
		"CREATE TABLE i (a INT)",
		"CREATE TABLE k (a INT)",
		"CREATE TABLE w (a INT, a INT)",
		"CREATE TABLE w (a INT, b INT, a TEXT)",
		"CREATE TABLE w (a INT, UNIQUE (b))",
		"CREATE TABLE w (a INT, b INT, UNIQUE (a, c))",
		"CREATE TABLE w (a INT, PRIMARY KEY (w))",
		"CREATE TABLE w (a INT, UNIQUE (a, a))",
		"CREATE TABLE w (a INT, b INT, PRIMARY KEY (a, b, a))",
		"CREATE TABLE w (a INT PRIMARY KEY, b INT PRIMARY KEY)",
		"CREATE TABLE w (a INT PRIMARY KEY, PRIMARY KEY (a))",
		"CREATE TABLE w (a INT, UNIQUE (a), PRIMARY KEY (a), UNIQUE (a), PRIMARY KEY (a))",
		"CREATE TABLE w (a INT, UNIQUE (" + row(10, "a") + "))",
		"CREATE INDEX l ON w (a)",
		"CREATE INDEX l ON i (a)",
		"CREATE INDEX i ON u (x)",
		"CREATE INDEX k ON u (x)",
		"CREATE INDEX t ON u (x)",
		"CREATE INDEX u ON u (x)",
		"CREATE INDEX l ON u (a)",
		"CREATE INDEX l ON u (x, y, z)",
		"CREATE INDEX l ON u (u)",
		"CREATE INDEX l ON u (x, x)",
		"CREATE INDEX l ON u (x, y, x)",
		"CREATE UNIQUE INDEX l ON u (" + row(10, "x") + ")",
		"DROP TABLE w",
		"DROP TABLE i",
		"DROP TABLE a",
		"DROP INDEX l",
		"DROP INDEX t",
		"DROP INDEX a",
	} {
		if _, c := apply(t, rich(t), statement(t, sql)); c != api.ErrName {
			t.Errorf("P11.3: %s: class %d", sql, c)
		}
		if _, c := apply(t, api.Schema{}, statement(t, sql)); strings.HasPrefix(sql, "DROP") && c != api.ErrName {
			t.Errorf("P11.3: %s, where there is nothing: class %d", sql, c)
		}
	}
}

func TestLimitsAreTold(t *testing.T) {
	for _, sql := range []string{
		"CREATE TABLE w (" + row(7, "c@ INT") + ")",
		"CREATE TABLE w (" + row(10, "c@ INT") + ")",
		"CREATE TABLE w (" + row(7, "c@ INT") + ", UNIQUE (" + row(7, "c@") + "))",
		"CREATE TABLE w (a INT, " + row(5, "UNIQUE (a)") + ")",
		"CREATE TABLE w (a INT, " + row(10, "UNIQUE (a)") + ")",
		"CREATE TABLE w (a INT PRIMARY KEY, " + row(4, "UNIQUE (a)") + ")",
		"CREATE TABLE w (" + row(7, "c@ INT") + ", " + row(5, "UNIQUE (c0)") + ")",
		"CREATE INDEX l ON t (a)",
		"CREATE UNIQUE INDEX l ON t (a, b, c)",
	} {
		if _, c := apply(t, rich(t), statement(t, sql)); c != api.ErrLimit {
			t.Errorf("P11.3: %s: class %d", sql, c)
		}
	}
}

// TestNamesAheadOfLimits: of one statement that is wrong of both.
func TestNamesAheadOfLimits(t *testing.T) {
	cols, keys := row(7, "c@ INT"), row(5, "UNIQUE (c0)")
	for _, sql := range []string{
		"CREATE TABLE t (" + cols + ")",
		"CREATE TABLE i (" + cols + ")",
		"CREATE TABLE w (" + cols + ", c6 INT)",
		"CREATE TABLE w (" + cols + ", c0 INT)",
		"CREATE TABLE w (" + cols + ", UNIQUE (a))",
		"CREATE TABLE w (" + cols + ", UNIQUE (" + row(7, "c@") + ", c6))",
		"CREATE TABLE w (" + cols + ", PRIMARY KEY (c0), PRIMARY KEY (c1))",
		"CREATE TABLE k (c0 INT, " + keys + ")",
		"CREATE TABLE w (c0 INT, c0 INT, " + keys + ")",
		"CREATE TABLE w (c0 INT, " + keys + ", UNIQUE (a))",
		"CREATE TABLE w (c0 INT, " + keys + ", UNIQUE (c0, c0))",
		"CREATE TABLE w (c0 INT PRIMARY KEY, " + keys + ", PRIMARY KEY (c0))",
		"CREATE TABLE w (c0 INT, " + keys + ", PRIMARY KEY (c0), PRIMARY KEY (c0))",
		"CREATE INDEX i ON t (a)",
		"CREATE INDEX t ON t (a)",
		"CREATE INDEX l ON t (x)",
		"CREATE INDEX l ON t (a, b, a)",
	} {
		if _, c := apply(t, rich(t), statement(t, sql)); c != api.ErrName {
			t.Errorf("P11.3: %s: class %d", sql, c)
		}
	}
}

// TestTheLastTables: MaxTables of them are taken, then none, until one is gone.
func TestTheLastTables(t *testing.T) {
	var s api.Schema
	for i := range api.MaxTables {
		var c api.Class
		if s, c = apply(t, s, statement(t, fmt.Sprintf("CREATE TABLE t%d (a INT)", i))); c != 0 {
			t.Fatalf("P11.3: table %d: class %d", i, c)
		}
	}
	for sql, want := range map[string]api.Class{
		"CREATE TABLE t6 (a INT)":                              api.ErrLimit,
		"CREATE TABLE t5 (a INT)":                              api.ErrName,
		"CREATE TABLE t6 (a INT, a INT)":                       api.ErrName,
		"CREATE TABLE t6 (a INT, UNIQUE (b))":                  api.ErrName,
		"CREATE TABLE t6 (a INT PRIMARY KEY, PRIMARY KEY (a))": api.ErrName,
		"CREATE TABLE t6 (" + row(7, "c@ INT") + ")":           api.ErrLimit,
		"CREATE INDEX i ON t5 (a)":                             0,
		"DROP TABLE t6":                                        api.ErrName,
	} {
		if _, c := apply(t, s, statement(t, sql)); c != want {
			t.Errorf("P11.3: %s: class %d, want %d", sql, c, want)
		}
	}
	s, _ = apply(t, s, statement(t, "DROP TABLE t2"))
	s, c := apply(t, s, statement(t, "CREATE TABLE t2 (a INT)"))
	if got := show(s); c != 0 || got != "t0 a INT; t1 a INT; t3 a INT; t4 a INT; t5 a INT; t2 a INT" {
		t.Errorf("P11.3: class %d, %s", c, got)
	}
}

// TestTheLastKeys: MaxKeys of them, then none, until one is gone; its name is free with it.
func TestTheLastKeys(t *testing.T) {
	s := made(t, "CREATE TABLE t (a INT PRIMARY KEY)", "CREATE INDEX i ON t (a)", "CREATE INDEX j ON t (a)", "CREATE INDEX k ON t (a)", "CREATE TABLE u (a INT)")
	if _, c := apply(t, s, statement(t, "CREATE INDEX l ON t (a)")); c != api.ErrLimit {
		t.Errorf("P11.3: class %d", c)
	}
	if _, c := apply(t, s, statement(t, "CREATE INDEX l ON u (a)")); c != 0 {
		t.Errorf("P11.3: class %d", c)
	}
	s, _ = apply(t, s, statement(t, "DROP INDEX j"))
	s, c := apply(t, s, statement(t, "CREATE UNIQUE INDEX j ON t (a)"))
	if got := show(s); c != 0 || got != "t a INT!, P(0), i(0), k(0), Uj(0); u a INT" {
		t.Errorf("P11.3: class %d, %s", c, got)
	}
	s, _ = apply(t, s, statement(t, "DROP TABLE t"))
	s, c = apply(t, s, statement(t, "CREATE TABLE k (t INT)"))
	if got := show(s); c != 0 || got != "u a INT; k t INT" {
		t.Errorf("P11.3: class %d, %s", c, got)
	}
}

// TestAtTheLimits: what is at all of them can still be made less.
func TestAtTheLimits(t *testing.T) {
	s := limits()
	for _, table := range s.Tables {
		less, c := apply(t, s, api.Stmt{Kind: api.SDrop, Name: table.Name})
		if c != 0 || len(less.Tables) != api.MaxTables-1 || catalog.Find(less, table.Name) != -1 {
			t.Errorf("P11.3: class %d, %s", c, show(less))
		}
		less, c = apply(t, s, api.Stmt{Kind: api.SUnindex, Index: table.Keys[1].Name})
		if i := catalog.Find(s, table.Name); c != 0 || len(less.Tables[i].Keys) != api.MaxKeys-1 {
			t.Errorf("P11.3: class %d, %s", c, show(less))
		}
		if _, c = apply(t, s, api.Stmt{Kind: api.SIndex, Index: "i", Name: table.Name, Cols: []string{table.Cols[0].Name}}); c != api.ErrLimit {
			t.Errorf("P11.3: class %d", c)
		}
	}
}

// TestNoDefinition: whatever the schema.
func TestNoDefinition(t *testing.T) {
	for _, sql := range []string{
		"SELECT a FROM t", "SELECT z FROM z", "INSERT INTO t VALUES (1)", "INSERT INTO z VALUES (1)", "UPDATE t SET a = 1", "DELETE FROM t", "DELETE FROM z",
	} {
		for _, s := range []api.Schema{{}, rich(t), limits(), {Tables: make([]api.Table, 1)}} {
			if _, c := apply(t, s, statement(t, sql)); c != api.ErrForm {
				t.Errorf("P11.3: %s: class %d", sql, c)
			}
		}
	}
}

// TestNoStatement: ErrForm ahead of whatever else is wrong.
func TestNoStatement(t *testing.T) {
	create := statement(t, "CREATE TABLE w (a INT PRIMARY KEY, b TEXT)")
	index := statement(t, "CREATE INDEX l ON u (x, y)")
	change := func(x api.Stmt, one func(x *api.Stmt)) api.Stmt {
		x = deepCopy(x)
		one(&x)
		return x
	}
	for i, x := range []api.Stmt{
		{}, {Kind: -1}, {Kind: 9}, {Kind: math.MaxInt}, {Kind: math.MinInt},
		{Kind: api.SCreate}, {Kind: api.SIndex}, {Kind: api.SDrop}, {Kind: api.SUnindex}, {Kind: api.SSelect},
		{Kind: api.SDrop, Name: "T"}, {Kind: api.SDrop, Name: "t", Index: "i"}, {Kind: api.SDrop, Name: "t", Limit: -1},
		{Kind: api.SUnindex, Index: "I"}, {Kind: api.SUnindex, Index: "i", Name: "t"},
		change(create, func(x *api.Stmt) { x.Table.Name = "table" }),
		change(create, func(x *api.Stmt) { x.Table.Name = "" }),
		change(create, func(x *api.Stmt) { x.Table.Cols[0].Type = 0 }),
		change(create, func(x *api.Stmt) { x.Table.Cols[0].Name = "A" }),
		change(create, func(x *api.Stmt) { x.Table.Cols = nil }),
		change(create, func(x *api.Stmt) { x.Table.Cols = many(11, x.Table.Cols[0]) }),
		change(create, func(x *api.Stmt) { x.Table.Cols = many(1<<20, x.Table.Cols[0]) }),
		change(create, func(x *api.Stmt) { x.Table.Keys[0].Unique = false }),
		change(create, func(x *api.Stmt) { x.Table.Keys[0].Name = "p" }),
		change(create, func(x *api.Stmt) { x.Table.Keys[0].Cols = []int{0} }),
		change(create, func(x *api.Stmt) { x.Table.Keys = nil }),
		change(create, func(x *api.Stmt) { x.KeyCols = nil }),
		change(create, func(x *api.Stmt) { x.KeyCols[0] = nil }),
		change(create, func(x *api.Stmt) { x.KeyCols = append(x.KeyCols, []string{"a"}) }),
		change(create, func(x *api.Stmt) { x.KeyCols[0] = many(11, "a") }),
		change(create, func(x *api.Stmt) { x.Name = "w" }),
		change(index, func(x *api.Stmt) { x.Index = "" }),
		change(index, func(x *api.Stmt) { x.Name = "U" }),
		change(index, func(x *api.Stmt) { x.Cols = nil }),
		change(index, func(x *api.Stmt) { x.Cols[1] = "Y" }),
		change(index, func(x *api.Stmt) { x.Cols = many(11, "x") }),
		change(index, func(x *api.Stmt) { x.Table.Name = "t" }),
		change(index, func(x *api.Stmt) { x.Where.At = 1 }),
	} {
		if _, c := apply(t, rich(t), x); c != api.ErrForm {
			t.Errorf("P11.3: row %d: class %d", i, c)
		}
	}
	for _, x := range []api.Stmt{create, index} {
		if _, c := apply(t, rich(t), x); c != 0 {
			t.Errorf("P11.3: class %d", c)
		}
	}
}
