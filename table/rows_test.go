package table_test

import (
	"fmt"
	"math"
	"testing"

	"consistory/api"
)

// TestRows: by the keys of t: 0 on a, 1 on b, 2 on c and a, 3 on b and c; of u: 0 on y and x, 1 on x and y.
func TestRows(t *testing.T) {
	all := api.Way{Key: -1}
	for i, c := range []struct {
		table int
		w     api.Way
		want  string
	}{
		{0, all, "1 2 3 5"}, {1, all, "1 2 3 4 5 6 7 8"}, {2, all, "1 2"},
		{0, api.Way{Key: -1, Eq: []api.Value{}}, "1 2 3 5"},
		{0, eq(0), "1 2 3 5"}, {0, eq(1), "1 2 3 5"}, {0, eq(2), "1 2 3 5"}, {0, eq(3), "1 2 3 5"}, {1, eq(0), "1 2 3 4 5 6 7 8"},
		{0, eq(0, num(2)), "2"}, {0, eq(0, num(-4)), "5"}, {0, eq(0, num(4)), ""}, {0, eq(0, null), ""},
		{0, eq(0, text("2")), ""}, {0, eq(0, truth(true)), ""},
		{0, eq(1, text("x")), "1"}, {0, eq(1, text("")), "5"}, {0, eq(1, null), "2 3"}, {0, eq(1, text("xx")), ""},
		{0, eq(2, truth(true)), "1 5"}, {0, eq(2, truth(false)), "2 3"}, {0, eq(2, truth(true), num(-4)), "5"}, {0, eq(2, truth(false), num(-4)), ""},
		{0, eq(3, null), "2 3"}, {0, eq(3, null, truth(false)), "2 3"}, {0, eq(3, null, null), ""},
		{1, eq(0, text("a")), "1 2 3 8"}, {1, eq(0, text("a"), null), "2 3"}, {1, eq(0, text("a"), num(-1)), "8"}, {1, eq(0, null), "4 5"}, {1, eq(0, null, null), "5"},
		{1, eq(1, null), "2 3 5"}, {1, eq(1, null, text("a")), "2 3"}, {1, eq(1, num(1)), "1 7"}, {1, eq(1, num(1), text("ab")), "7"},

		{0, from(eq(0), num(2)), "2 3"}, {0, from(eq(0), num(4)), ""}, {0, from(eq(0), num(math.MinInt64)), "1 2 3 5"}, {0, from(eq(0), null), "1 2 3 5"},
		{0, upTo(eq(0), num(2)), "1 2 5"}, {0, upTo(eq(0), num(-5)), ""}, {0, upTo(eq(0), num(math.MaxInt64)), "1 2 3 5"}, {0, upTo(eq(0), null), ""},
		{0, between(eq(0), num(1), num(2)), "1 2"}, {0, between(eq(0), num(2), num(2)), "2"}, {0, between(eq(0), num(2), num(1)), ""}, {0, between(eq(0), num(-9), num(9)), "1 2 3 5"},
		{0, from(eq(0), truth(true)), "1 2 3 5"}, {0, from(eq(0), text("")), ""}, {0, upTo(eq(0), truth(true)), ""}, {0, upTo(eq(0), text("")), "1 2 3 5"},
		{0, from(eq(1), null), "1 5"}, {0, from(eq(1), text("")), "1 5"}, {0, from(eq(1), text("a")), "1"}, {0, upTo(eq(1), text("w")), "5"}, {0, upTo(eq(1), text("x")), "1 5"},
		{0, between(eq(1), null, null), ""}, {0, between(eq(1), null, text("z")), "1 5"}, {0, between(eq(1), num(1), text("z")), "1 5"},
		{0, from(eq(2), truth(true)), "1 5"}, {0, upTo(eq(2), truth(false)), "2 3"}, {0, from(eq(2, truth(true)), num(0)), "1"}, {0, upTo(eq(2, truth(true)), num(0)), "5"},
		{1, from(eq(0), text("ab")), "6 7"}, {1, upTo(eq(0), text("a")), "1 2 3 8"}, {1, upTo(eq(0), text("aa")), "1 2 3 8"}, {1, from(eq(0), text("aa")), "6 7"},
		{1, from(eq(0, text("a")), null), "1 8"}, {1, upTo(eq(0, text("a")), num(0)), "8"}, {1, from(eq(0, text("a")), num(0)), "1"}, {1, upTo(eq(0, null), num(9)), "4"},
		{1, from(eq(1, num(1)), text("a")), "1 7"}, {1, from(eq(1, num(1)), text("aa")), "7"}, {1, upTo(eq(1, num(1)), text("aa")), "1"}, {1, between(eq(1, num(2)), text(""), text("z")), "6"},
		{1, from(eq(1, null), text("")), "2 3"}, {1, upTo(eq(1, null), text("a")), "2 3"}, {1, upTo(eq(1, null), null), ""},
	} {
		if got := tell(t, rich(t), c.table, c.w); got != c.want {
			t.Errorf("P12.4: row %d: %s, want %s", i, got, c.want)
		}
	}
}

// TestBoundsThatAreNotAsked: they aren't looked at.
func TestBoundsThatAreNotAsked(t *testing.T) {
	for _, v := range append([]api.Value{num(2), text("a"), truth(true)}, wrongValues...) {
		for _, w := range []api.Way{{Lo: v}, {Hi: v}, {Lo: v, Hi: v}, {Eq: vals(num(2)), Lo: v, Hi: v}, {Lo: num(2), HasLo: true, Hi: v}, {Lo: v, Hi: num(2), HasHi: true}} {
			plain := w
			if !w.HasLo {
				plain.Lo = null
			}
			if !w.HasHi {
				plain.Hi = null
			}
			if a, b := tell(t, rich(t), 0, w), tell(t, rich(t), 0, plain); a != b || a == "class 20" {
				t.Errorf("P12.4: %+v: %s, want %s", w, a, b)
			}
		}
	}
}

func TestRowsErr(t *testing.T) {
	all := api.Way{Key: -1}
	for i, w := range []api.Way{
		{Key: -2}, {Key: math.MinInt}, {Key: 4}, {Key: math.MaxInt},
		eq(-1, num(1)), eq(-1, null), from(all, num(1)), from(all, null), upTo(all, num(1)), upTo(all, null), between(all, num(1), num(2)),
		{Key: -1, Lo: num(0)}, {Key: -1, Hi: num(0)}, {Key: -1, Lo: text("")}, {Key: -1, Hi: truth(false)}, {Key: -1, Lo: api.Value{Int: 1}}, {Key: -1, Hi: api.Value{Text: "a"}},
		eq(0, num(1), num(1)), eq(0, num(1), null), eq(2, truth(true), num(1), null), {Key: 0, Eq: make([]api.Value, 1<<16)},
		from(eq(0, num(1)), num(1)), upTo(eq(0, num(1)), num(1)), between(eq(0, num(1)), num(1), num(1)),
		from(eq(2, truth(true), num(1)), num(1)), upTo(eq(2, truth(true), num(1)), null), from(eq(0, num(1), num(1)), num(1)),
		eq(4, num(1)), from(api.Way{Key: 4}, num(1)),
	} {
		if got := tell(t, rich(t), 0, w); got != "class 20" {
			t.Errorf("P12.4: row %d: %s", i, got)
		}
	}
	if got := tell(t, rich(t), 2, api.Way{Key: 0}); got != "class 20" {
		t.Errorf("P12.4: a table without keys: %s", got)
	}
	for _, v := range wrongValues {
		for _, w := range []api.Way{
			eq(0, v), eq(2, v), eq(2, v, num(1)), eq(2, truth(true), v), eq(1, v), from(eq(2, v), num(1)),
			from(eq(0), v), upTo(eq(0), v), between(eq(0), num(1), v), between(eq(0), v, num(1)), from(eq(2, truth(true)), v),
			eq(-1, v), {Key: -1, Lo: v}, {Key: -1, Hi: v},
		} {
			if got := tell(t, rich(t), 0, w); got != "class 20" {
				t.Errorf("P12.4: %+v: %s", w, got)
			}
		}
	}
	for _, i := range []int{-1, 3, math.MaxInt, math.MinInt} {
		for _, w := range []api.Way{all, {Key: -2}, {Key: 9}, eq(-1, null), eq(0, wrongValues[0])} {
			if got := tell(t, rich(t), i, w); got != "class 40" {
				t.Errorf("P12.4: table %d, %+v: %s", i, w, got)
			}
		}
	}
}

// TestRowsByIdWhateverTheKey: as many rows as there may be, the key the other way round.
func TestRowsByIdWhateverTheKey(t *testing.T) {
	x := store(t, "CREATE TABLE t (a INT UNIQUE)")
	want := ""
	for n := range int64(api.MaxRows) {
		wantWrite(t, x, 0, nil, nil, made(vals(num(-n))))
		if n > 0 {
			want += " "
		}
		want += fmt.Sprint(n + 1)
	}
	for _, w := range []api.Way{{Key: -1}, {}, from(eq(0), num(-100)), upTo(eq(0), num(0))} {
		if got := tell(t, x, 0, w); got != want {
			t.Errorf("P12.4: %+v: %s", w, got)
		}
	}
}
