package exec_test

import (
	"strings"
	"testing"

	"consistory/api"
	"consistory/exec"
	"consistory/resolve"
	"consistory/table"
)

// wantAll: each of the calls errs with that class.
func wantAll(t *testing.T, label string, store *table.Store, x api.Stmt, want api.Class) {
	t.Helper()
	_, a := query(t, store, x)
	_, b := by(t, store, x, everyRow)
	_, c := joined(t, store, x)
	if a != want || b != want || c != want {
		t.Errorf("%s: classes %d, %d, %d, want %d", label, a, b, c, want)
	}
}

// TestNoSelect: P16.2, P16.3: ErrForm ahead of what resolve tells.
func TestNoSelect(t *testing.T) {
	for _, sql := range []string{
		"DELETE FROM t", "DELETE FROM zz", "UPDATE t SET b = 1", "UPDATE t SET zz = 1", "INSERT INTO u VALUES (1, 2)", "INSERT INTO u VALUES ('x')",
		"CREATE TABLE z (a INT)", "CREATE TABLE t (a INT)", "CREATE INDEX z ON t (a)", "DROP TABLE t", "DROP INDEX zz",
	} {
		wantAll(t, "P16.2: "+sql, store(t), statement(t, sql), api.ErrForm)
	}
	for _, x := range []api.Stmt{{}, {Kind: -1}, {Kind: 9}, {Kind: api.SSelect}, {Kind: api.SDelete}} {
		wantAll(t, "P16.2: no statement", store(t), x, api.ErrForm)
	}
}

// TestWhatResolveRefuses: P16.2, P16.3: its error, ahead of what is wrong of a way.
func TestWhatResolveRefuses(t *testing.T) {
	for sql, want := range map[string]api.Class{
		"SELECT zz FROM t":                                     api.ErrName,
		"SELECT a FROM zz":                                     api.ErrName,
		"SELECT a FROM t JOIN zz ON TRUE":                      api.ErrName,
		"SELECT a FROM t JOIN t ON TRUE":                       api.ErrName,
		"SELECT a FROM t x JOIN t y ON TRUE":                   api.ErrName,
		"SELECT a FROM t WHERE zz = 1":                         api.ErrName,
		"SELECT a FROM t WHERE a":                              api.ErrType,
		"SELECT a FROM t WHERE COUNT(*) = 1":                   api.ErrType,
		"SELECT b FROM t GROUP BY a":                           api.ErrType,
		"SELECT * FROM t GROUP BY a":                           api.ErrType,
		"SELECT a FROM t HAVING TRUE":                          api.ErrType,
		"SELECT a + s FROM t":                                  api.ErrType,
		"SELECT DISTINCT a FROM t ORDER BY b":                  api.ErrType,
		"SELECT *, *, *, *, a, a, a FROM t":                    api.ErrLimit,
		"SELECT 1 / 0, zz FROM t":                              api.ErrName,
		"SELECT a FROM t WHERE 1 / 0 = 1 ORDER BY MAX(a) || s": api.ErrType,
	} {
		x := statement(t, sql)
		wantAll(t, "P16.2: "+sql, store(t), x, want)
		if _, c := by(t, store(t), x, api.Way{Key: 9}); c != want {
			t.Errorf("P16.2: %s by a wrong way: class %d, want %d", sql, c, want)
		}
		_, first := resolve.Stmt(store(t).Schema(), x)
		if _, err := exec.Query(store(t), x); first.Error() != err.Error() {
			t.Errorf("P16.2: %s: %v, want %v", sql, err, first)
		}
	}
	odd := statement(t, "SELECT a FROM t")
	odd.Items[0].Expr.At = 1
	wantAll(t, "P16.2: told already", store(t), odd, api.ErrForm)
	wantAll(t, "P16.2: no tables", table.New(), statement(t, "SELECT a FROM t"), api.ErrName)
	wantAll(t, "P16.2: a store of no New", &table.Store{}, statement(t, "SELECT a FROM t"), api.ErrName)
}

// TestWrongWays: P16.2: ErrForm ahead of what goes wrong in a step, and of too much.
func TestWrongWays(t *testing.T) {
	one := integer(1)
	wrong := []api.Way{
		{Key: -2}, {Key: 2}, {Key: 9}, {Key: -1, Eq: []api.Value{one}}, {Key: -1, HasLo: true}, {Key: -1, Hi: one}, {Key: -1, HasHi: true, Hi: one},
		{Key: 0, Eq: []api.Value{one, one}}, {Key: 0, Eq: []api.Value{one}, HasLo: true}, {Key: 0, Eq: []api.Value{one}, HasHi: true},
		{Key: 1, Eq: []api.Value{one, one, one}}, {Key: 0, Eq: []api.Value{{Kind: 9}}}, {Key: 0, Lo: api.Value{Int: 1}, HasLo: true}, {Key: 0, Hi: textOf(strings.Repeat("x", 41)), HasHi: true},
	}
	for _, sql := range []string{
		"SELECT a FROM t", "SELECT a FROM t WHERE 1 / 0 = 1", "SELECT a FROM t JOIN u ON 1 / 0 = 1", "SELECT MAX(9223372036854775807 + a) FROM t", "SELECT t.a FROM t JOIN u ON TRUE JOIN u o ON TRUE",
	} {
		for _, w := range wrong {
			if c := holdBy(t, store(t), statement(t, sql), w); c != api.ErrForm {
				t.Errorf("P16.2: %s by %s: class %d", sql, way(w), c)
			}
		}
	}
	x := statement(t, "SELECT 1 FROM a JOIN b ON TRUE JOIN c ON TRUE")
	if _, c := by(t, sized(t, 60, 60, 60), x, api.Way{Key: 1}); c != api.ErrForm {
		t.Errorf("P16.2: too much by a wrong way: class %d", c)
	}
	// the keys are those of the first source's table, not of another one's
	x = statement(t, "SELECT k FROM u JOIN t ON TRUE")
	if _, c := by(t, store(t), x, api.Way{Key: 1}); c != api.ErrForm {
		t.Errorf("P16.2: another one's key: class %d", c)
	}
	if _, c := by(t, store(t), x, api.Way{Key: 0}); c != 0 {
		t.Errorf("P16.2: its key: class %d", c)
	}
}

// TestRowsOfAWay: P16.2: just those of the first source that it tells, be it safe or not; all of the others.
func TestRowsOfAWay(t *testing.T) {
	five, two := api.Way{Key: 1, Eq: []api.Value{integer(5)}}, api.Way{Key: 0, Lo: integer(2), HasLo: true, Hi: integer(3), HasHi: true}
	noB := api.Way{Key: 1, Eq: []api.Value{null}}
	for _, c := range []struct {
		sql  string
		w    api.Way
		want string
	}{
		{"SELECT a FROM t", everyRow, "a: 1, 2, 3, 4"},
		{"SELECT a FROM t", api.Way{Key: 0}, "a: 1, 2, 3, 4"},
		{"SELECT a FROM t", api.Way{Key: 1}, "a: 1, 2, 3, 4"},
		{"SELECT a FROM t", five, "a: 1, 4"},
		{"SELECT a FROM t", two, "a: 2, 3"},
		{"SELECT a FROM t", noB, "a: 3"},
		{"SELECT a FROM t", api.Way{Key: 1, Lo: integer(-9), HasLo: true}, "a: 1, 2, 4"},
		{"SELECT a FROM t", api.Way{Key: 1, Eq: []api.Value{integer(5)}, Hi: textOf("z"), HasHi: true}, "a: 1"},
		{"SELECT a FROM t", api.Way{Key: 1, Eq: []api.Value{integer(5), null}}, "a: 4"},
		{"SELECT a FROM t", api.Way{Key: 0, Eq: []api.Value{integer(9)}}, "a: "},
		{"SELECT a FROM t WHERE b = 0", five, "a: "},
		{"SELECT a FROM t WHERE s = 'x'", two, "a: 3"},
		{"SELECT COUNT(*), SUM(a) FROM t", five, "col1 col2: 2 5"},
		{"SELECT COUNT(*) FROM t", api.Way{Key: 0, Eq: []api.Value{integer(9)}}, "col1: 0"},
		{"SELECT b, COUNT(*) FROM t GROUP BY b", two, "b col2: 0 1, NULL 1"},
		{"SELECT 1 / b FROM t", five, "col1: 0, 0"},
		{"SELECT a FROM t WHERE 1 / b = 0", noB, "a: "},
		{"SELECT a FROM t WHERE 1 / b = 0", two, "class 7"},
		{"SELECT t.a, o.a FROM t JOIN t o ON t.a <= o.a", two, "a a: 2 2, 2 3, 2 4, 3 3, 3 4"},
		{"SELECT t.a, o.a FROM t LEFT JOIN t o ON o.a < 2 AND t.b > 0", two, "a a: 2 NULL, 3 NULL"},
		{"SELECT k, o.a FROM u JOIN t o ON TRUE", api.Way{Key: 0, Eq: []api.Value{integer(7)}}, "k a: 7 1, 7 2, 7 3, 7 4"},
		{"SELECT n.a, m.a, o.a FROM t n JOIN t m ON n.a = m.a JOIN t o ON m.a <> o.a", noB, "a a a: 3 3 1, 3 3 2, 3 3 4"},
		{"SELECT DISTINCT b FROM t LIMIT 2", five, "b: 5"},
		{"SELECT a FROM t ORDER BY a DESC LIMIT 1", two, "a: 3"},
	} {
		x := statement(t, c.sql)
		a, class := by(t, store(t), x, c.w)
		if got := say(a, class, len(x.Order) > 0); got != c.want {
			t.Errorf("P16.2: %s by %s: %s, want %s", c.sql, way(c.w), got, c.want)
		}
		holdBy(t, store(t), x, c.w)
	}
}

// TestJoined: P16.3: the rows behind step 2, whatever stands behind it.
func TestJoined(t *testing.T) {
	for _, c := range []struct{ sql, want string }{
		{"SELECT * FROM t", "1 5 'x' TRUE, 2 0 'y' FALSE, 3 NULL 'x' NULL, 4 5 NULL TRUE"},
		{"SELECT a FROM t WHERE b = 5", "1 5 'x' TRUE, 4 5 NULL TRUE"},
		{"SELECT a FROM t WHERE FALSE", ""},
		{"SELECT z FROM e", ""},
		{"SELECT COUNT(*) FROM e", ""},
		{"SELECT a FROM t JOIN u ON a = k", "1 5 'x' TRUE 1 10, 1 5 'x' TRUE 1 20"},
		{"SELECT 1 FROM u JOIN t ON a = k AND w > 10", "1 20 1 5 'x' TRUE"},
		{"SELECT 1 FROM u LEFT JOIN e ON w = z LEFT JOIN t ON k = a WHERE w > 5", "1 10 NULL NULL 1 5 'x' TRUE, 1 20 NULL NULL 1 5 'x' TRUE"},
		{"SELECT 1 FROM u LEFT JOIN e ON TRUE WHERE w < 10", "7 0 NULL NULL, NULL 1 NULL NULL"},
		{"SELECT 1 / 0, COUNT(*) FROM u WHERE w = 0 GROUP BY k HAVING 1 / 0 = 1 ORDER BY 1 / 0 LIMIT 0", "7 0"},
		{"SELECT DISTINCT 1 FROM u WHERE k = 1 ORDER BY 1 LIMIT 1", "1 10, 1 20"},
		{"SELECT 1 FROM u WHERE 1 / w = 1", "class 7"},
		{"SELECT 1 FROM g JOIN u ON 1 / m = 1 WHERE n + 1 = 1", "class 7"},
		{"SELECT 1 FROM g WHERE n + 1 = 1 OR 1 / m = 1", "class 6"},
	} {
		l, class := joined(t, store(t), statement(t, c.sql))
		got := sayRows(l, false)
		if class != 0 {
			got = say(api.Answer{}, class, true)
		}
		if got != c.want {
			t.Errorf("P16.3: %s: %s, want %s", c.sql, got, c.want)
		}
		holdJoined(t, store(t), statement(t, c.sql))
	}
}
