package table_test

import (
	"fmt"
	"math"
	"strings"
	"testing"

	"consistory/api"
	"consistory/table"
)

// TestWriteSwap: the chapter's example.
func TestWriteSwap(t *testing.T) {
	x := store(t, "CREATE TABLE t (a INT, b INT UNIQUE)")
	wantWrite(t, x, 0, nil, nil, made(vals(num(1), num(10)), vals(num(2), num(20))))
	wantWrite(t, x, 0, rows(row(1, num(1), num(20)), row(2, num(2), num(10))), nil, nil)
	if got := show(x); got != "t a INT, b INT, U(1) 1(1,20) 2(2,10) /3" {
		t.Errorf("P12.3: %s", got)
	}
	if a, b := tell(t, x, 0, eq(0, num(10))), tell(t, x, 0, eq(0, num(20))); a != "2" || b != "1" {
		t.Errorf("P12.4: %s, %s", a, b)
	}
}

// TestWrite: what is taken, and what there is then.
func TestWrite(t *testing.T) {
	for i, c := range []struct {
		ups  []api.Row
		gone []uint64
		made [][]api.Value
		want string
	}{
		{nil, nil, nil, richRowsT},
		{[]api.Row{}, []uint64{}, [][]api.Value{}, richRowsT},
		{rows(row(1, num(1), text("x"), truth(true))), nil, nil, richRowsT},
		{rows(row(2, num(0), text("q"), truth(true))), nil, nil, " 1(1,'x',TRUE) 2(0,'q',TRUE) 3(3,NULL,FALSE) 5(-4,'',TRUE) /6"},
		{nil, ids(5, 1), nil, " 2(2,NULL,FALSE) 3(3,NULL,FALSE) /6"},
		{nil, ids(1, 2, 3, 5), nil, " /6"},
		{nil, nil, made(vals(num(8), text("q"), truth(true)), vals(num(7), null, truth(false))), richRowsT[:len(richRowsT)-2] + "6(8,'q',TRUE) 7(7,NULL,FALSE) /8"},
		{rows(row(3, num(1), text("x"), truth(true)), row(1, num(3), null, truth(false))), nil, nil, " 1(3,NULL,FALSE) 2(2,NULL,FALSE) 3(1,'x',TRUE) 5(-4,'',TRUE) /6"},
		{rows(row(1, num(2), null, truth(true)), row(2, num(3), null, truth(true)), row(3, num(1), null, truth(true))), nil, nil, " 1(2,NULL,TRUE) 2(3,NULL,TRUE) 3(1,NULL,TRUE) 5(-4,'',TRUE) /6"},
		{rows(row(2, num(1), text("x"), truth(true))), ids(1), nil, " 2(1,'x',TRUE) 3(3,NULL,FALSE) 5(-4,'',TRUE) /6"},
		{nil, ids(1), made(vals(num(1), text("x"), truth(true))), " 2(2,NULL,FALSE) 3(3,NULL,FALSE) 5(-4,'',TRUE) 6(1,'x',TRUE) /7"},
		{rows(row(1, num(9), text("y"), truth(true))), nil, made(vals(num(1), text("x"), truth(true))), " 1(9,'y',TRUE) 2(2,NULL,FALSE) 3(3,NULL,FALSE) 5(-4,'',TRUE) 6(1,'x',TRUE) /7"},
		{rows(row(5, num(math.MinInt64), text(strings.Repeat("z", api.MaxText)), truth(true))), ids(1, 2), made(vals(num(math.MaxInt64), null, truth(false))), " 3(3,NULL,FALSE) 5(-9223372036854775808,'" + strings.Repeat("z", api.MaxText) + "',TRUE) 6(9223372036854775807,NULL,FALSE) /7"},
	} {
		x := rich(t)
		wantWrite(t, x, 0, c.ups, c.gone, c.made)
		if got, want := show(x), strings.Replace(richShown, richRowsT, c.want, 1); got != want {
			t.Errorf("P12.3: row %d: %s, want %s", i, got, want)
		}
	}
}

// TestIdsAreNew: those of rows that are gone don't come again.
func TestIdsAreNew(t *testing.T) {
	x := store(t, "CREATE TABLE t (a INT)")
	for n := range 5 {
		wantWrite(t, x, 0, nil, nil, made(vals(null), vals(num(1))))
		wantWrite(t, x, 0, nil, ids(uint64(2*n+1), uint64(2*n+2)), nil)
	}
	if got := show(x); got != "t a INT /11" {
		t.Errorf("P12.3: %s", got)
	}
}

func TestWritePlaces(t *testing.T) {
	wrong := rows(row(1, num(1)))
	tooMany := many(61, vals(num(1), null, null))
	for i, c := range []struct {
		table int
		ups   []api.Row
		gone  []uint64
		made  [][]api.Value
	}{
		{3, nil, nil, nil}, {-1, nil, nil, nil}, {math.MaxInt, nil, nil, nil}, {math.MinInt, wrong, ids(9), tooMany},
		{0, rows(row(4, num(4), null, truth(true))), nil, nil},
		{0, rows(row(0, num(4), null, truth(true))), nil, nil},
		{0, rows(row(6, num(4), null, truth(true))), nil, nil},
		{0, rows(row(math.MaxUint64, num(4), null, truth(true))), nil, nil},
		{0, rows(row(1<<63+1, num(4), null, truth(true))), nil, nil},
		{0, nil, ids(4), nil}, {0, nil, ids(0), nil}, {0, nil, ids(6), nil}, {0, nil, ids(1, 2, 3, 5, 7), nil},
		{0, nil, ids(1<<63 + 1), nil}, {0, nil, ids(1<<32 + 1), nil}, {0, nil, ids(math.MaxUint64), nil},
		{0, nil, ids(6), made(vals(num(9), null, truth(true)))}, // it would be there then
		{0, nil, ids(1, 1), nil}, {0, nil, ids(2, 1, 3, 2), nil},
		{0, rows(row(1, num(1), null, truth(true)), row(1, num(1), null, truth(true))), nil, nil},
		{0, rows(row(1, num(1), null, truth(true))), ids(1), nil},
		{0, rows(row(3, num(1), null, truth(true)), row(2, num(1), null, truth(true))), ids(5, 2), nil},
		{0, many(1<<16, row(1, num(1), null, truth(true))), nil, nil}, {0, nil, many(1<<16, uint64(1)), nil},
		// ahead of all else that is wrong
		{0, rows(row(1), row(4)), nil, nil},
		{0, wrong, ids(4), nil},
		{0, wrong, ids(1), tooMany},
		{0, nil, ids(4), made(nil)},
		{0, nil, ids(4), tooMany},
		{0, nil, ids(1, 1), made(vals(num(2), null, null))},
		{0, rows(row(1, num(2), null, null), row(9, num(2), null, null)), nil, nil},
	} {
		if got := write(t, rich(t), c.table, c.ups, c.gone, c.made); got != api.ErrPlace {
			t.Errorf("P12.3: row %d: class %d", i, got)
		}
	}
}

func TestWriteForms(t *testing.T) {
	good := vals(num(9), null, truth(true))
	twice := vals(num(1), null, truth(true))
	for i, bad := range [][]api.Value{
		nil, {}, {num(9)}, {num(9), null}, {num(9), null, truth(true), null}, make([]api.Value, 1<<16),
		{text("9"), null, truth(true)}, {truth(true), null, truth(true)}, {num(9), num(9), truth(true)}, {num(9), truth(true), truth(true)},
		{num(9), null, num(1)}, {num(9), null, text("TRUE")},
		{null, num(9), null}, // a Null is told later
	} {
		for k, c := range []struct {
			ups  []api.Row
			made [][]api.Value
		}{
			{rows(row(1, bad...)), nil},
			{nil, made(bad)},
			{rows(row(2, good...), row(1, bad...)), made(good)},
			{rows(row(1, good...)), made(good, bad)},
			// ahead of limits and constraints
			{nil, append(many(61, good), bad)},
			{rows(row(1, bad...)), many(61, good)},
			{rows(row(2, twice...)), made(bad)},
			{nil, made(vals(null, null, null), bad)},
		} {
			if got := write(t, rich(t), 0, c.ups, nil, c.made); got != api.ErrForm {
				t.Errorf("P12.3: row %d, %d: class %d", i, k, got)
			}
		}
	}
	for _, v := range wrongValues {
		for col := range 3 {
			bad := append([]api.Value(nil), good...)
			bad[col] = v
			a := write(t, rich(t), 0, rows(row(1, bad...)), ids(2), nil)
			b := write(t, rich(t), 0, nil, ids(2), made(good, bad))
			if a != api.ErrForm || b != api.ErrForm {
				t.Errorf("P12.3: %v in column %d: classes %d, %d", v, col, a, b)
			}
		}
	}
}

func TestWriteLimits(t *testing.T) {
	for _, have := range []int{0, 1, 58, 59, 60} {
		for _, gone := range []int{0, 1, have} {
			for _, more := range []int{0, 1, 2, 59, 60, 61, 1 << 12} {
				if gone > have {
					continue
				}
				x := store(t, "CREATE TABLE t (a INT)", "CREATE TABLE u (a INT)")
				wantWrite(t, x, 0, nil, nil, many(have, vals(null)))
				wantWrite(t, x, 1, nil, nil, many(60, vals(null)))
				var which []uint64
				for i := range gone {
					which = append(which, uint64(i+1))
				}
				var ups []api.Row
				if have > gone {
					ups = rows(row(uint64(have), num(5)))
				}
				want := api.Class(0)
				if have-gone+more > 60 {
					want = api.ErrLimit
				}
				if got := write(t, x, 0, ups, which, many(more, vals(num(1)))); got != want || want == 0 && x.Count(0) != have-gone+more {
					t.Errorf("P12.3: %d rows, %d gone, %d more: class %d, %d rows", have, gone, more, got, x.Count(0))
				}
			}
		}
	}
}

// TestLimitsAheadOfConstraints: whatever the constraint is.
func TestLimitsAheadOfConstraints(t *testing.T) {
	x := store(t, "CREATE TABLE t (a INT PRIMARY KEY, b INT UNIQUE)")
	for n := range int64(60) {
		wantWrite(t, x, 0, nil, nil, made(vals(num(n), null)))
	}
	for i, c := range []struct {
		ups  []api.Row
		gone []uint64
		made [][]api.Value
		want api.Class
	}{
		{nil, nil, made(vals(num(0), null)), api.ErrLimit},
		{nil, nil, made(vals(null, null)), api.ErrLimit},
		{rows(row(1, num(1), null)), nil, made(vals(num(60), null)), api.ErrLimit},
		{nil, ids(1), made(vals(num(0), null), vals(num(1), null)), api.ErrLimit},
		{nil, ids(1), made(vals(num(1), null)), api.ErrConstraint},
		{nil, ids(1), made(vals(null, null)), api.ErrConstraint},
		{rows(row(1, num(1), null)), nil, nil, api.ErrConstraint},
		{rows(row(1, num(1), null)), ids(2), nil, 0},
	} {
		if got := write(t, x.Clone(), 0, c.ups, c.gone, c.made); got != c.want {
			t.Errorf("P12.3: row %d: class %d, want %d", i, got, c.want)
		}
	}
}

func TestWriteConstraints(t *testing.T) {
	right := truth(true)
	for i, c := range []struct {
		ups  []api.Row
		gone []uint64
		made [][]api.Value
	}{
		{rows(row(1, null, null, right)), nil, nil},
		{rows(row(1, num(1), null, null)), nil, nil},
		{nil, nil, made(vals(null, null, right))},
		{nil, nil, made(vals(num(9), null, right), vals(num(8), null, null))},
		{rows(row(1, num(2), null, right)), nil, nil},
		{rows(row(1, num(2), null, right), row(2, num(2), null, right)), nil, nil},
		{rows(row(1, num(7), null, right), row(2, num(7), null, right)), nil, nil},
		{rows(row(2, num(2), text("x"), right)), nil, nil},
		{rows(row(2, num(2), text("x"), truth(false))), nil, nil},
		{rows(row(1, num(2), null, right)), ids(3), nil},
		{nil, ids(2), made(vals(num(1), null, right))},
		{nil, nil, made(vals(num(-4), null, right))},
		{nil, nil, made(vals(num(9), text(""), right))},
		{nil, nil, made(vals(num(9), null, right), vals(num(9), null, right))},
		{nil, nil, made(vals(num(9), text("q"), right), vals(num(8), text("q"), right))},
		{rows(row(1, num(9), text("q"), right)), nil, made(vals(num(9), null, right))},
		{rows(row(1, num(9), text("q"), right)), nil, made(vals(num(1), text("q"), right))},
	} {
		if got := write(t, rich(t), 0, c.ups, c.gone, c.made); got != api.ErrConstraint {
			t.Errorf("P12.3: row %d: class %d", i, got)
		}
	}
}

// TestWriteNullsInKeys: a Null in a Unique key's columns is like nothing.
func TestWriteNullsInKeys(t *testing.T) {
	for i, c := range []struct {
		made [][]api.Value
		want api.Class
	}{
		{made(vals(num(1), text("a"))), api.ErrConstraint},
		{made(vals(num(2), text("b"))), api.ErrConstraint},
		{made(vals(num(1), text("b")), vals(num(2), text("a"))), 0},
		{made(vals(null, text("a")), vals(null, text("a"))), 0},
		{made(vals(num(2), null), vals(num(2), null)), 0},
		{made(vals(null, null)), 0},
		{made(vals(num(9), text("a")), vals(null, text("a")), vals(num(9), text("a"))), api.ErrConstraint},
	} {
		if got := write(t, rich(t), 1, nil, nil, c.made); got != c.want {
			t.Errorf("P12.3: row %d: class %d, want %d", i, got, c.want)
		}
	}
	x := rich(t)
	if c := write(t, x, 1, rows(row(2, num(1), text("a"))), nil, nil); c != api.ErrConstraint {
		t.Errorf("P12.3: class %d", c)
	}
	if c := write(t, x, 1, rows(row(2, num(1), text("a"))), ids(1), nil); c != 0 {
		t.Errorf("P12.3: class %d", c)
	}
	if c := write(t, x, 1, rows(row(2, null, text("a"))), nil, made(vals(num(1), text("a")))); c != 0 {
		t.Errorf("P12.3: class %d", c)
	}
}

// TestWriteTheLastIds: a Next above 2^62 isn't data's.
func TestWriteTheLastIds(t *testing.T) {
	s := store(t, "CREATE TABLE t (a INT)").Schema()
	for _, c := range []struct {
		next uint64
		more int
		want api.Class
	}{
		{1 << 62, 0, 0}, {1 << 62, 1, api.ErrConstraint}, {1 << 62, 60, api.ErrConstraint}, {1 << 62, 61, api.ErrLimit},
		{1<<62 - 1, 1, 0}, {1<<62 - 1, 2, api.ErrConstraint}, {1<<62 - 60, 60, 0}, {1<<62 - 59, 60, api.ErrConstraint}, {1 << 61, 60, 0},
	} {
		x, err := table.Of(s, api.Data{Rows: make([][]api.Row, 1), Next: ids(c.next)})
		if err != nil {
			t.Fatal(err)
		}
		if got := write(t, x, 0, nil, nil, many(c.more, vals(null))); got != c.want {
			t.Errorf("P12.3: Next %d, %d more: class %d, want %d", c.next, c.more, got, c.want)
		}
		if c.want == 0 {
			if d := x.Data(); d.Next[0] != c.next+uint64(c.more) || of(t, s, d) != show(x) {
				t.Errorf("P12.3: Next %d, %d more: %s", c.next, c.more, show(x))
			}
		}
	}
	full, err := table.Of(s, api.Data{Rows: [][]api.Row{{row(1<<62-2, num(1)), row(1<<62-1, num(2))}}, Next: ids(1 << 62)})
	if err != nil {
		t.Fatal(err)
	}
	wantWrite(t, full, 0, rows(row(1<<62-1, num(5))), ids(1<<62-2), nil)
	if got, want := show(full), fmt.Sprintf("t a INT %d(5) /%d", 1<<62-1, 1<<62); got != want {
		t.Errorf("P12.3: %s, want %s", got, want)
	}
}
