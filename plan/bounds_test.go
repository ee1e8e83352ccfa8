package plan_test

import (
	"fmt"
	"slices"
	"testing"

	"consistory/api"
	"consistory/value"
)

// sign: a comparison; the bound that it sets; and how it stands the other way round.
type sign struct{ op, bound, turned string }

var comparisons = []sign{{"=", "=", "="}, {"<", "<=", ">"}, {"<=", "<=", ">="}, {">", ">=", "<"}, {">=", ">=", "<="}}

// wheres tells conditions whose first part is a comparison of a column of a table with v, either way round, as far as P15.3 speaks of them.
func wheres(table string, c api.Column, s sign, v string) []string {
	var l []string
	for _, test := range []string{c.Name + " " + s.op + " " + v, v + " " + s.turned + " " + table + "." + c.Name} {
		l = append(l, test)
		if c.NotNull {
			l = append(l, test+" AND 1 / 0 = 1", test+" AND 1 / 0 = 1 AND "+test, test+" AND (1 / 0 = 1 AND TRUE)", "("+test+" AND TRUE) AND NULL")
		}
	}
	return l
}

// checkBound: whatever x does with the rows, there is that bound for each key whose first column is number n; it tells how many keys there are.
func checkBound(t *testing.T, table api.Table, n int, where, bound string) int {
	t.Helper()
	tried := 0
	for _, sql := range []string{"SELECT * FROM " + table.Name, "DELETE FROM " + table.Name, "UPDATE " + table.Name + " SET " + table.Cols[n].Name + " = NULL"} {
		l := told(t, sql+" WHERE "+where)
		for k, key := range table.Keys {
			if key.Cols[0] != n {
				continue
			}
			tried++
			if want := fmt.Sprint(k, " ", bound); !slices.Contains(l, want) {
				t.Errorf("P15.3: %s WHERE %s: no %s: %v", sql, where, want, l)
			}
		}
	}
	return tried
}

// TestBounds: P15.3: all comparisons, both ways round, of columns of all types that may be NULL, and that may not, alone and with other parts behind them.
func TestBounds(t *testing.T) {
	tried := 0
	for _, table := range schema(t).Tables {
		for n, c := range table.Cols {
			for _, s := range comparisons {
				for _, v := range edges(c.Type) {
					for _, where := range wheres(table.Name, c, s, value.Print(v)) {
						tried += checkBound(t, table, n, where, s.bound+" "+value.Print(v))
					}
				}
			}
		}
	}
	if tried < 1000 {
		t.Errorf("too little is tried: %d", tried)
	}
}

// TestOneTestAlone: P15.3: whatever else is asked of the column, the first test's bound is there by itself.
func TestOneTestAlone(t *testing.T) {
	for sql, want := range map[string]string{
		"SELECT * FROM t WHERE a > 5 AND a = 3":            "1 >= 5",
		"SELECT * FROM t WHERE a = 5 AND a = 3":            "1 = 5",
		"SELECT * FROM t WHERE a BETWEEN 3 AND 5":          "1 >= 3",
		"SELECT * FROM t WHERE a = 5 AND b = 1":            "0 = 5",
		"SELECT * FROM t WHERE 5 < a AND 7 < a":            "0 >= 5",
		"SELECT * FROM t x WHERE x.c = 'it''s' AND p":      "3 = 'it''s'",
		"SELECT * FROM t WHERE b <= -3 AND b > 4":          "2 <= -3",
		"SELECT * FROM v WHERE r = TRUE AND 1 / 0 = 1":     "2 = TRUE",
		"SELECT * FROM v WHERE s < TRUE":                   "3 <= TRUE",
		"SELECT * FROM t WHERE a <> 1 AND a > 5 AND a = 3": "1 >= 5",
	} {
		if l := told(t, sql); !slices.Contains(l, want) {
			t.Errorf("P15.3: %s: %v, want %s", sql, l, want)
		}
	}
}

// TestOrderOfWays: the first test's by each key, then all tests'.
func TestOrderOfWays(t *testing.T) {
	for sql, want := range map[string][]string{
		"SELECT * FROM t WHERE a = 5 AND b = 1":             {"all", "0 = 5", "1 = 5", "0 = 5 = 1", "2 = 1"},
		"SELECT * FROM t WHERE a >= 5 AND a <= 9":           {"all", "0 >= 5", "1 >= 5", "0 >= 5 <= 9", "1 >= 5 <= 9"},
		"SELECT * FROM t WHERE a = 5":                       {"all", "0 = 5", "1 = 5"},
		"SELECT * FROM t WHERE a IS NULL AND b = 1 AND q":   {"all", "2 = 1"},
		"SELECT * FROM t WHERE c = 'x' AND 1 / 0 = 1 AND q": {"all", "3 = 'x'"},
	} {
		if l := told(t, sql); !slices.Equal(l, want) {
			t.Errorf("%s: %v, want %v", sql, l, want)
		}
	}
}

// TestTestsTogether: what several tests leave is bound as far as a key goes.
func TestTestsTogether(t *testing.T) {
	for sql, want := range map[string]string{
		"SELECT * FROM t WHERE a = 5 AND b = 1":                       "0 = 5 = 1",
		"SELECT * FROM t WHERE a = 5 AND b > 1 AND b <= 7":            "0 = 5 >= 1 <= 7",
		"SELECT * FROM t WHERE a > 5 AND b = 1":                       "2 = 1",
		"SELECT * FROM t WHERE a BETWEEN 3 AND 5":                     "1 >= 3 <= 5",
		"SELECT * FROM t WHERE a >= 5 AND a <= 5":                     "1 = 5",
		"SELECT * FROM t WHERE a > 3 AND a >= 4 AND 9 > a AND a <= 8": "1 >= 4 <= 8",
		"SELECT * FROM t WHERE b < 9 AND b < 8 AND b < 10":            "2 <= 8",
		"SELECT * FROM t WHERE b > 7 AND b > 8 AND b > 6":             "2 >= 8",
		"SELECT * FROM t WHERE a > 5 AND a = 3":                       "1 >= 5 <= 3",
		"SELECT * FROM t WHERE c = 'x' AND a = 1 AND b = 2":           "3 = 'x' = 1 = 2",
		"SELECT * FROM t WHERE c = 'x' AND b = 2":                     "3 = 'x'",
		"SELECT * FROM t WHERE c = 'x' || 'y' AND a < 2 * 3":          "3 = 'xy' <= 6",
		"SELECT * FROM t WHERE p AND a = 5":                           "1 = 5",
		"SELECT * FROM t JOIN u ON x = a WHERE y = 1 AND a = 5":       "1 = 5",
	} {
		if l := told(t, sql); !slices.Contains(l, want) {
			t.Errorf("%s: %v, want %s", sql, l, want)
		}
	}
}

// TestOnlyWhatIsTested: a test behind what may err, or of a NULL, bounds nothing.
func TestOnlyWhatIsTested(t *testing.T) {
	for sql, without := range map[string]string{
		"SELECT * FROM t WHERE a = 5 AND 1 / b = 1 AND b = 1":          "0 = 5 = 1",
		"SELECT * FROM t WHERE a = 5 AND b = 1 AND 1 / b = 1":          "0 = 5 = 1",
		"SELECT * FROM t WHERE a = 5 AND b = NULL":                     "0 = 5 = NULL",
		"SELECT * FROM t WHERE a = 5 AND b <> 1":                       "0 = 5 = 1",
		"SELECT * FROM t JOIN u ON TRUE WHERE a = 5 AND u.b = 1":       "0 = 5 = 1",
		"SELECT * FROM u m JOIN u n ON TRUE WHERE n.x = 5 AND m.x = 1": "0 = 5",
	} {
		l := told(t, sql)
		if slices.Contains(l, without) || len(l) < 2 {
			t.Errorf("P15.2: %s: %v", sql, l)
		}
	}
}
