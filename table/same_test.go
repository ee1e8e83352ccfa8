package table_test

import (
	"reflect"
	"testing"

	"consistory/api"
	"consistory/table"
)

// TestSameHoweverTheyCame: stores with the same rows tell the same, and go on alike.
func TestSameHoweverTheyCame(t *testing.T) {
	one := rich(t)
	of, err := table.Of(one.Schema(), one.Data())
	if err != nil {
		t.Fatal(err)
	}
	stores := []*table.Store{one, one.Clone(), of, roundabout(t)}
	for step := range 4 {
		for i, x := range stores {
			if got, want := show(x), show(one); got != want || !reflect.DeepEqual(answerOf(x), answerOf(one)) {
				t.Fatalf("P12.5: step %d, store %d: %s, want %s", step, i, got, want)
			}
			for _, w := range []api.Way{eq(0, text("a")), from(eq(0), text("ab")), eq(1, null), upTo(eq(1), num(1))} {
				if got, want := tell(t, x, 1, w), tell(t, one, 1, w); got != want {
					t.Fatalf("P12.5: step %d, store %d, %+v: %s, want %s", step, i, w, got, want)
				}
			}
		}
		for i, x := range stores {
			var got, want api.Class
			switch step {
			case 0:
				got = write(t, x, 1, rows(row(4, num(1), text("a"))), ids(1, 8), made(vals(num(3), text("c"))))
			case 1:
				got = define(t, x, statement(t, "CREATE UNIQUE INDEX l ON u (x, y)"))
			case 2:
				got = define(t, x, statement(t, "DROP INDEX k"))
			case 3:
				got, want = write(t, x, 1, nil, nil, made(vals(num(1), text("a")))), api.ErrConstraint
			}
			if got != want {
				t.Fatalf("P12.5: step %d, store %d: class %d, want %d", step, i, got, want)
			}
		}
	}
}

// roundabout comes to what rich tells by another way: keys later, rows as other ones at first.
func roundabout(t *testing.T) *table.Store {
	t.Helper()
	x := store(t,
		"CREATE TABLE w (a INT)",
		"CREATE TABLE t (a INT PRIMARY KEY, b TEXT UNIQUE, c BOOL NOT NULL)",
		"CREATE TABLE u (x INT, y TEXT, UNIQUE (y, x))",
		"CREATE INDEX l ON u (y)",
		"CREATE TABLE v (a BOOL)")
	wantWrite(t, x, 3, nil, nil, made(vals(truth(true)), vals(truth(true))))
	wantWrite(t, x, 3, rows(row(1, null)), nil, nil)
	for n := range int64(8) {
		wantWrite(t, x, 2, nil, nil, made(vals(num(100-n), text("z"))))
	}
	for n := range int64(5) {
		wantWrite(t, x, 1, nil, nil, made(vals(num(n), null, truth(true))))
	}
	for _, sql := range []string{"DROP TABLE w", "DROP INDEX l", "CREATE INDEX k ON u (x, y)", "CREATE INDEX i ON t (c, a)", "CREATE UNIQUE INDEX j ON t (b, c)"} {
		if c := define(t, x, statement(t, sql)); c != 0 {
			t.Fatalf("P12.2: %s: class %d", sql, c)
		}
	}
	wantWrite(t, x, 0, rows(row(5, num(-4), text(""), truth(true)), row(3, num(3), null, truth(false)), row(1, num(1), text("x"), truth(true)), row(2, num(2), null, truth(false))), ids(4), nil)
	want := rich(t).Data().Rows[1]
	for k := len(want) - 1; k >= 0; k-- {
		wantWrite(t, x, 1, want[k:k+1], nil, nil)
	}
	return x
}
