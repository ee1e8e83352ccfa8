package expr_test

import (
	"math"
	"slices"
	"testing"

	"consistory/api"
	"consistory/value"
)

// over: each text, on the rows, tells what stands beside it.
func over(t *testing.T, label string, rows [][]api.Value, l map[string]string) {
	t.Helper()
	for s, want := range l {
		if got := group(t, read(t, s), rows); got != want {
			t.Errorf("%s: %s: %s, want %s", label, s, got, want)
		}
	}
}

func TestAggregates(t *testing.T) {
	rows := rowsOf(integer(3), integer(-5), null, integer(3))
	over(t, "P14.3", rows, map[string]string{
		"COUNT(*)": "4", "COUNT(i)": "3", "COUNT(j)": "4", "COUNT(s)": "0", "COUNT(1)": "4", "COUNT(NULL)": "0", "COUNT(i = 3)": "3", "COUNT(i + j)": "3",
		"SUM(i)": "1", "SUM(j)": "6", "SUM(i * j)": "4", "SUM(7)": "28", "SUM(NULL)": "NULL", "SUM(i + NULL)": "NULL",
		"MIN(i)": "-5", "MAX(i)": "3", "MIN(j)": "0", "MAX(j)": "3", "MIN(- i)": "-3", "MAX(- i)": "5",
		"MIN(s)": "NULL", "MAX(s)": "NULL", "MIN(NULL)": "NULL", "MAX(i < 0)": "TRUE", "MIN(i < 0)": "FALSE",
		"MAX(CASE WHEN i = 3 THEN 'a' ELSE 'b' END)": "'b'",
		"MIN(CASE WHEN i = 3 THEN 'a' ELSE 'b' END)": "'a'",
	})
	over(t, "P14.3: of none", nil, map[string]string{
		"COUNT(*)": "0", "COUNT(i)": "0", "COUNT(1 / 0)": "0", "SUM(i)": "NULL", "SUM(1)": "NULL", "MIN(s)": "NULL", "MAX(p)": "NULL", "SUM(1 / 0)": "NULL",
		"COUNT(*) + 1": "1", "SUM(i) IS NULL": "TRUE",
	})
	over(t, "P14.3: of one", rowsOf(integer(4)), map[string]string{
		"COUNT(*)": "1", "COUNT(i)": "1", "SUM(i)": "4", "MIN(i)": "4", "MAX(i)": "4", "COUNT(s)": "0", "SUM(1 / (i - 4))": zero,
	})
}

// TestSumIsExact: whatever is on the way to it.
func TestSumIsExact(t *testing.T) {
	least, most := integer(math.MinInt64), integer(math.MaxInt64)
	for _, c := range []struct {
		l    []api.Value
		want string
	}{
		{[]api.Value{most, integer(0)}, "9223372036854775807"},
		{[]api.Value{most, integer(1)}, overflow},
		{[]api.Value{most, integer(1), integer(-1)}, "9223372036854775807"},
		{[]api.Value{most, most, least, least}, "-2"},
		{[]api.Value{least, least, most, most}, "-2"},
		{[]api.Value{most, least}, "-1"},
		{[]api.Value{least, integer(0)}, "-9223372036854775808"},
		{[]api.Value{least, integer(-1)}, overflow},
		{[]api.Value{least, null, integer(-1), integer(1)}, "-9223372036854775808"},
		{[]api.Value{least, least}, overflow},
		{[]api.Value{most, most}, overflow},
		{[]api.Value{most, most, integer(2)}, overflow}, // 2^64
		{many(4, least), overflow},                      // -2^65
		{append(many(4, most), append(many(4, least), integer(4))...), "0"},
		{many(1000, most), overflow},
		{append(many(1000, most), append(many(1000, least), many(500, integer(2))...)...), "0"},
		{append(many(1000, least), append(many(999, most), integer(999))...), "-9223372036854775808"},
	} {
		if got := group(t, read(t, "SUM(i)"), rowsOf(c.l...)); got != c.want {
			t.Errorf("P14.3: SUM of %d from %v on: %s, want %s", len(c.l), c.l[0], got, c.want)
		}
		slices.Reverse(c.l)
		if got := group(t, read(t, "SUM(i)"), rowsOf(c.l...)); got != c.want {
			t.Errorf("P14.3: SUM of %d down to %v: %s, want %s", len(c.l), c.l[0], got, c.want)
		}
	}
}

// TestLeastAndGreatest: by value.Compare, of all pairs, with a NULL anywhere.
func TestLeastAndGreatest(t *testing.T) {
	for place, kind := range []int{api.Int, api.Int, api.Text, api.Text, api.Bool} {
		for _, a := range samples(kind) {
			for _, b := range samples(kind) {
				l := []api.Value{a, b}
				slices.SortFunc(l, value.Compare)
				for n := range 3 {
					three := slices.Insert([]api.Value{a, b}, n, null)
					var rows [][]api.Value
					for _, v := range three {
						row := make([]api.Value, len(columns))
						row[place] = v
						rows = append(rows, row)
					}
					if got := group(t, node(api.EAgg, api.AMin, at(place)), rows); got != value.Print(l[0]) {
						t.Errorf("P14.3: MIN of %v: %s", three, got)
					}
					if got := group(t, node(api.EAgg, api.AMax, at(place)), rows); got != value.Print(l[1]) {
						t.Errorf("P14.3: MAX of %v: %s", three, got)
					}
				}
			}
		}
	}
}

// TestWorstErrorOfRows: of all rows, not the first one's; of COUNT, too.
func TestWorstErrorOfRows(t *testing.T) {
	errs := "CASE WHEN i = 1 THEN 1 / 0 WHEN i = 2 THEN 9223372036854775807 + 1 ELSE i END"
	numbers := func(l ...int64) [][]api.Value {
		var out []api.Value
		for _, n := range l {
			out = append(out, integer(n))
		}
		return rowsOf(out...)
	}
	for _, name := range []string{"COUNT", "SUM", "MIN", "MAX"} {
		e := read(t, name+"("+errs+")")
		for _, c := range []struct {
			rows [][]api.Value
			want string
		}{
			{numbers(1, 2), overflow}, {numbers(2, 1), overflow}, {numbers(0, 1, 0), zero}, {numbers(1, 1, 1), zero}, {numbers(0, 0, 2), overflow},
			{numbers(1, 0, 1, 1, 2), overflow}, {numbers(2, 0, 1, 1), overflow}, {numbers(0, 0, 0, 1), zero},
			{append(numbers(0), nil), form}, {append(numbers(1), nil), zero}, {append([][]api.Value{nil}, numbers(1, 0)...), zero}, {append([][]api.Value{nil}, numbers(2)...), overflow},
		} {
			if got := group(t, e, c.rows); got != c.want {
				t.Errorf("P14.3: %s: %v: %s, want %s", name, c.rows, got, c.want)
			}
		}
	}
	if got := group(t, read(t, "SUM("+errs+")"), append(rowsOf(integer(math.MaxInt64), integer(math.MaxInt64)), numbers(1)...)); got != zero {
		t.Errorf("P14.3: an error of a row stands ahead of the sum's: %s", got)
	}
	if got := group(t, read(t, "COUNT(*)"), make([][]api.Value, 5)); got != "5" {
		t.Errorf("P14.3: COUNT(*) looks at no row: %s", got)
	}
}

// TestGroupIsEvalOnTheFirstRow: but for aggregates.
func TestGroupIsEvalOnTheFirstRow(t *testing.T) {
	over(t, "P14.3", rowsOf(integer(3), integer(0), null), map[string]string{
		"i": "3", "j": "0", "i + 1": "4", "s": "NULL", "1": "1", "s IS NULL": "TRUE", "i IN (0, 3)": "TRUE", "6 / i": "2", "6 / j": zero,
		"i + COUNT(*)": "6", "SUM(i) + i": "6", "- MAX(j)": "-2", "i = MAX(i)": "TRUE", "NOT (MIN(i) = 0)": "FALSE", "COUNT(*) IN (1, 2, 3)": "TRUE",
		"CASE WHEN COUNT(*) > 2 THEN MAX(i) ELSE 1 / 0 END":     "3",
		"CASE WHEN COUNT(*) > 3 THEN 1 / 0 ELSE SUM(j) END":     "3",
		"FALSE AND SUM(6 / i) = 1":                              "FALSE",
		"TRUE AND SUM(6 / i) = 1":                               zero,
		"TRUE OR SUM(6 / i) = 1":                                "TRUE",
		"i IN (3, SUM(6 / i))":                                  "TRUE",
		"i IN (4, SUM(6 / i))":                                  zero,
		"NULL IN (SUM(6 / i))":                                  "NULL",
		"SUM(6 / i) + SUM(i + 9223372036854775807)":             zero,
		"SUM(i + 9223372036854775807) + SUM(6 / i)":             overflow,
		"COUNT(*) / 0":                                          zero,
		"CASE WHEN i = 3 THEN 1 WHEN SUM(6 / i) = 1 THEN 2 END": "1",
	})
	over(t, "P14.3: of none", nil, map[string]string{
		"i": "NULL", "q": "NULL", "i IS NULL": "TRUE", "s IS NOT NULL": "FALSE", "i + 1": "NULL", "1 + 1": "2", "i / 0": "NULL", "1 / 0": zero,
		"i IN (1 / 0)": "NULL", "CASE WHEN p THEN 1 ELSE 2 END": "2", "i + COUNT(*)": "NULL", "COUNT(i) = 0": "TRUE", "q AND FALSE": "FALSE",
	})
	if got := group(t, read(t, "j"), [][]api.Value{row()[:1], row()}); got != form {
		t.Errorf("P14.3: a first row that is too short: %s", got)
	}
	if got := group(t, read(t, "i"), [][]api.Value{row()[:1], nil}); got != "6" {
		t.Errorf("P14.3: another row that is too short: %s", got)
	}
	if got := group(t, read(t, "i"), [][]api.Value{nil}); got != form {
		t.Errorf("P14.3: a row without anything: %s", got)
	}
}

// TestNoAggregateWithinOne: its argument is asked on each row by itself.
func TestNoAggregateWithinOne(t *testing.T) {
	for op := api.ACount; op <= api.AMax; op++ {
		for _, inside := range []api.Expr{node(api.EAgg, api.ACount), node(api.EAgg, api.AMin, at(0)), node(api.EUnary, api.ONeg, node(api.EAgg, api.ACount))} {
			if got := group(t, node(api.EAgg, op, inside), rowsOf(integer(1), integer(2))); got != form {
				t.Errorf("P14.3: %d of %+v: %s", op, inside, got)
			}
		}
	}
}
