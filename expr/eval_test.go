package expr_test

import (
	"math"
	"slices"
	"strings"
	"testing"

	"consistory/api"
	"consistory/value"
)

const zero, overflow, form = "class 7", "class 6", "class 20"

// wantEach: each text, on the row, tells what stands beside it.
func wantEach(t *testing.T, label string, l map[string]string) {
	t.Helper()
	for s, want := range l {
		e := read(t, s)
		if got := eval(t, e, row()); got != want {
			t.Errorf("%s: %s: %s, want %s", label, s, got, want)
		}
		if got := group(t, e, [][]api.Value{row(), rowsOf(integer(0))[0]}); got != want {
			t.Errorf("P14.3: %s on the first row: %s, want %s", s, got, want)
		}
	}
}

func TestColumnIsTheValueAtItsPlace(t *testing.T) {
	full := []api.Value{integer(1), integer(2), textOf("a"), textOf("b"), no, yes}
	for n, want := range full {
		if got := eval(t, at(n), full); got != value.Print(want) {
			t.Errorf("P14.1: column %d: %s", n, got)
		}
		for short := range n + 1 {
			if got := eval(t, at(n), full[:short]); got != form {
				t.Errorf("P14.1: column %d of %d: %s", n, short, got)
			}
		}
		if got := eval(t, at(n), full[:n+1]); got != value.Print(want) {
			t.Errorf("P14.1: column %d of %d: %s", n, n+1, got)
		}
		if got := eval(t, at(n), many(n+1, null)); got != "NULL" {
			t.Errorf("P14.1: column %d of NULLs: %s", n, got)
		}
	}
	named := at(0)
	named.Table, named.Name = "u", "zz"
	if got := eval(t, named, full); got != "1" {
		t.Errorf("P14.1: only At tells the column: %s", got)
	}
}

// TestOperatorsAreThoseOfValue: all of them, on all pairs of values that fit.
func TestOperatorsAreThoseOfValue(t *testing.T) {
	print := func(n int) string { return [...]string{"FALSE", "TRUE", "NULL"}[n] }
	for _, kind := range []int{api.Bool, api.Int, api.Text} {
		l := append(samples(kind), null)
		for _, a := range l {
			for _, b := range l {
				for op := api.OEq; op <= api.OGe; op++ {
					n, err := value.Test(op, a, b)
					if got := eval(t, node(api.EBinary, op, constant(a), at(0)), []api.Value{b}); err != nil || got != print(n) {
						t.Errorf("P14.1: operator %d of %v, %v: %s, want %s", op, a, b, got, print(n))
					}
				}
				for op := api.OAdd; op <= api.OCat; op++ {
					if (kind == api.Int) == (op == api.OCat) || kind == api.Bool {
						continue
					}
					v, err := value.Do(op, a, b)
					if got := eval(t, node(api.EBinary, op, at(0), constant(b)), []api.Value{a}); got != say(t, v, err) {
						t.Errorf("P14.1: operator %d of %v, %v: %s, want %v, %v", op, a, b, got, v, err)
					}
				}
			}
		}
	}
	for _, a := range append(samples(api.Int), null) {
		v, err := value.Do(api.ONeg, a, null)
		if got := eval(t, node(api.EUnary, api.ONeg, at(0)), []api.Value{a}); got != say(t, v, err) {
			t.Errorf("P14.1: - %v: %s, want %v, %v", a, got, v, err)
		}
	}
}

func TestSums(t *testing.T) {
	wantEach(t, "P14.1", map[string]string{
		"i + 1": "7", "i - 7": "-1", "i * i": "36", "-7 / 2": "-3", "-7 % 2": "-1", "- i": "-6", "- (- i)": "6",
		"j + 1": "NULL", "1 - j": "NULL", "j * j": "NULL", "j / 0": "NULL", "j % 0": "NULL", "1 / j": "NULL", "- j": "NULL", "NULL + NULL": "NULL",
		"i / 0": zero, "i % 0": zero, "0 / (i - 6)": zero,
		"9223372036854775807 + i": overflow, "- i - 9223372036854775807": overflow, "9223372036854775807 * i": overflow,
		"9223372036854775807 + 0":         "9223372036854775807",
		"-9223372036854775807 - 1":        "-9223372036854775808",
		"- (-9223372036854775807 - 1)":    overflow,
		"(-9223372036854775807 - 1) / -1": overflow,
		"(-9223372036854775807 - 1) % -1": "0",
		"s || 'y'":                        "'xy'", "s || r": "NULL", "r || r": "NULL", "'' || ''": "''",
		"s || '" + strings.Repeat("a", 39) + "'":    "'x" + strings.Repeat("a", 39) + "'",
		"s || '" + strings.Repeat("a", 40) + "'":    overflow,
		"'' || '" + strings.Repeat("a", 40) + "'":   "'" + strings.Repeat("a", 40) + "'",
		"NULL || '" + strings.Repeat("a", 40) + "'": "NULL",
		"i = 6":                                  "TRUE",
		"i <> 6":                                 "FALSE",
		"i < 7":                                  "TRUE",
		"i <= 5":                                 "FALSE",
		"i > 5":                                  "TRUE",
		"i >= 7":                                 "FALSE",
		"j = j":                                  "NULL",
		"NULL = NULL":                            "NULL",
		"s < 'xa'":                               "TRUE",
		"FALSE < p":                              "TRUE",
		"i IS NULL":                              "FALSE",
		"i IS NOT NULL":                          "TRUE",
		"j IS NULL":                              "TRUE",
		"j IS NOT NULL":                          "FALSE",
		"(j = 1) IS NULL":                        "TRUE",
		"(q AND TRUE) IS NOT NULL":               "FALSE",
		"(1 / 0) IS NULL":                        zero,
		"(1 / 0) IS NOT NULL":                    zero,
		"NOT (1 / 0 = 1)":                        zero,
		"- (1 / 0)":                              zero,
		"i BETWEEN 6 AND 1 / 0":                  zero,
		"i BETWEEN 7 AND 1 / 0":                  "FALSE",
		"i NOT BETWEEN 1 AND 5":                  "TRUE",
		"CASE WHEN i = 6 THEN s || s ELSE s END": "'xx'",
		"(CASE WHEN p THEN 1 ELSE 0 END + i) * 2 % 5": "4",
	})
}

// TestFirstErrorIsTold: arguments from left to right, and what is behind an error isn't looked at.
func TestFirstErrorIsTold(t *testing.T) {
	wantEach(t, "P14.1", map[string]string{
		"1 / 0 + 9223372036854775807 * 2":                            zero,
		"9223372036854775807 * 2 + 1 / 0":                            overflow,
		"1 / 0 = 9223372036854775807 * 2":                            zero,
		"9223372036854775807 * 2 >= 1 / 0":                           overflow,
		"j + 1 / 0":                                                  zero,
		"1 / 0 + j":                                                  zero,
		"j = 1 / 0":                                                  zero,
		"9223372036854775807 + 1 = 1 OR 1 / 0 = 1":                   overflow,
		"9223372036854775807 + 1 = 1 AND 1 / 0 = 1":                  overflow,
		"1 / 0 IN (9223372036854775807 * 2)":                         zero,
		"1 IN (9223372036854775807 * 2, 1 / 0)":                      overflow,
		"CASE WHEN 1 / 0 = 1 THEN 9223372036854775807 + 1 END":       zero,
		"CASE WHEN TRUE THEN 9223372036854775807 + 1 ELSE 1 / 0 END": overflow,
	})
	broken := api.Expr{Kind: 9}
	for _, e := range []api.Expr{
		node(api.EBinary, api.OAdd, read(t, "1 / 0"), broken),
		node(api.EBinary, api.OEq, read(t, "1 / 0"), at(5)),
		node(api.EIn, 0, constant(integer(1)), read(t, "1 / 0"), broken),
		node(api.EIn, 0, read(t, "1 / 0"), broken),
	} {
		if got := eval(t, e, row()[:1]); got != zero {
			t.Errorf("P14.1: %+v: %s", e, got)
		}
	}
	if got := eval(t, node(api.EBinary, api.OAdd, broken, read(t, "1 / 0")), row()); got != form {
		t.Errorf("P14.1: %s", got)
	}
}

func TestWhatIsDecidedIsNotLookedAt(t *testing.T) {
	wantEach(t, "P14.1", map[string]string{
		"FALSE AND 1 / 0 = 1":                             "FALSE",
		"p AND 1 / 0 = 1":                                 zero,
		"q AND 1 / 0 = 1":                                 zero,
		"1 / 0 = 1 AND FALSE":                             zero,
		"TRUE OR 1 / 0 = 1":                               "TRUE",
		"FALSE OR 1 / 0 = 1":                              zero,
		"q OR 1 / 0 = 1":                                  zero,
		"1 / 0 = 1 OR TRUE":                               zero,
		"i = 6 OR 1 / 0 = 1":                              "TRUE",
		"NOT p AND 1 / 0 = 1":                             "FALSE",
		"q AND FALSE AND 1 / 0 = 1":                       "FALSE",
		"(q OR TRUE) OR 1 / 0 = 1":                        "TRUE",
		"FALSE AND (TRUE OR 1 / 0 = 1)":                   "FALSE",
		"TRUE AND (TRUE OR 1 / 0 = 1)":                    "TRUE",
		"(FALSE AND 1 / 0 = 1) OR TRUE":                   "TRUE",
		"(FALSE AND 1 / 0 = 1) OR 1 = 1":                  "TRUE",
		"FALSE AND TRUE OR 1 / 0 = 1":                     zero,
		"(FALSE AND 1 / 0 = 1) IS NULL":                   "FALSE",
		"(1 = 1 OR 1 / 0 = 1) = TRUE":                     "TRUE",
		"1 IN (1, 2) OR 1 / 0 IN (1)":                     "TRUE",
		"NOT (TRUE OR 1 / 0 = 1) AND q":                   "FALSE",
		"CASE WHEN FALSE THEN 1 / 0 END":                  "NULL",
		"FALSE AND 9223372036854775807+1=1 AND 1 / 0 = 1": "FALSE",
	})
}

func TestIn(t *testing.T) {
	wantEach(t, "P14.1", map[string]string{
		"i IN (6)":                      "TRUE",
		"i IN (7)":                      "FALSE",
		"i IN (1, 2, 6)":                "TRUE",
		"i IN (1, 6, 1 / 0)":            "TRUE",
		"i IN (1, 1 / 0, 6)":            zero,
		"1 IN (NULL, 1 / 0)":            zero,
		"1 IN (NULL, 2)":                "NULL",
		"1 IN (2, NULL)":                "NULL",
		"1 IN (2, NULL, 3)":             "NULL",
		"1 IN (NULL, 1)":                "TRUE",
		"1 IN (NULL, NULL)":             "NULL",
		"1 IN (1, NULL)":                "TRUE",
		"j IN (1 / 0)":                  "NULL",
		"j IN (NULL)":                   "NULL",
		"j IN (1, 2)":                   "NULL",
		"NULL IN (1, 1 / 0)":            "NULL",
		"i NOT IN (7, 8)":               "TRUE",
		"i NOT IN (7, NULL)":            "NULL",
		"i NOT IN (7, NULL, 6)":         "FALSE",
		"s IN ('y', 'x')":               "TRUE",
		"s IN ('X')":                    "FALSE",
		"p IN (FALSE)":                  "FALSE",
		"p IN (FALSE, q)":               "NULL",
		"i IN (1,2,3,4,5,7,8,9,10,6)":   "TRUE",
		"i IN (1,2,3,4,5,7,8,9,10,i+1)": "FALSE",
	})
}

func TestCase(t *testing.T) {
	wantEach(t, "P14.1", map[string]string{
		"CASE WHEN j = 1 THEN 1 / 0 WHEN i = 6 THEN 2 ELSE 1 / 0 END":          "2",
		"CASE WHEN FALSE THEN 1 END":                                           "NULL",
		"CASE WHEN FALSE THEN 1 ELSE 2 END":                                    "2",
		"CASE WHEN NULL THEN 1 ELSE 2 END":                                     "2",
		"CASE WHEN q THEN 1 END":                                               "NULL",
		"CASE WHEN TRUE THEN 1 WHEN TRUE THEN 2 END":                           "1",
		"CASE WHEN TRUE THEN NULL ELSE 2 END":                                  "NULL",
		"CASE WHEN TRUE THEN 1 WHEN 1 / 0 = 1 THEN 2 END":                      "1",
		"CASE WHEN FALSE THEN 1 WHEN 1 / 0 = 1 THEN 2 END":                     zero,
		"CASE WHEN 1 / 0 = 1 THEN 1 ELSE 2 END":                                zero,
		"CASE WHEN FALSE THEN 1 ELSE 1 / 0 END":                                zero,
		"CASE WHEN q THEN 'a' WHEN p THEN s ELSE 'c' END":                      "'x'",
		"CASE WHEN i > 6 THEN 'a' WHEN i < 6 THEN 'b' WHEN i = 6 THEN 'c' END": "'c'",
	})
	long := func(last string) api.Expr {
		var args []api.Expr
		for n := range api.MaxItems {
			args = append(args, constant(no), constant(integer(int64(n))))
		}
		return node(api.ECase, 0, append(args, constant(textOf(last)))...)
	}
	if got := eval(t, long("z"), nil); got != "'z'" {
		t.Errorf("P14.1: as many as may be: %s", got)
	}
}

// TestThreeValuedLogic: P14.5, of all truths; an AND is the least, an OR the greatest, with Unknown between the others.
func TestThreeValuedLogic(t *testing.T) {
	l := []api.Value{no, null, yes}
	for a := range l {
		if got := eval(t, node(api.EUnary, api.ONot, constant(l[a])), nil); got != value.Print(l[2-a]) {
			t.Errorf("P14.5: NOT %v: %s", l[a], got)
		}
		for b := range l {
			both := []api.Value{l[a], l[b]}
			if got := eval(t, node(api.EBinary, api.OAnd, at(0), at(1)), both); got != value.Print(l[min(a, b)]) {
				t.Errorf("P14.5: %v AND %v: %s", l[a], l[b], got)
			}
			if got := eval(t, node(api.EBinary, api.OOr, at(0), at(1)), both); got != value.Print(l[max(a, b)]) {
				t.Errorf("P14.5: %v OR %v: %s", l[a], l[b], got)
			}
			for c := range l {
				three := []api.Value{l[a], l[b], l[c]}
				e := node(api.EUnary, api.ONot, node(api.EBinary, api.OAnd, node(api.EBinary, api.OOr, at(0), at(1)), node(api.EUnary, api.ONot, at(2))))
				if got := eval(t, e, three); got != value.Print(l[2-min(max(a, b), 2-c)]) {
					t.Errorf("P14.5: NOT ((%v OR %v) AND NOT %v): %s", l[a], l[b], l[c], got)
				}
			}
		}
	}
}

func TestTruth(t *testing.T) {
	for s, want := range map[string]string{
		"i = 6": "true", "i = 7": "false", "j = 6": "false", "p": "true", "q": "false", "NOT p": "false", "TRUE": "true", "FALSE": "false", "NULL": "false",
		"i / 0 = 1": zero, "9223372036854775807 + i = 1": overflow, "FALSE AND 1 / 0 = 1": "false", "TRUE OR 1 / 0 = 1": "true", "q AND 1 / 0 = 1": zero,
		"i": "false", "1": "false", "i - 5": "false", "s": "false", "'TRUE'": "false", "j": "false", "i / 0": zero,
	} {
		if got := truth(t, read(t, s), row()); got != want {
			t.Errorf("P14.2: %s: %s, want %s", s, got, want)
		}
	}
	for _, rows := range [][]api.Value{nil, {}, row()} {
		if got := truth(t, api.Expr{}, rows); got != "true" {
			t.Errorf("P14.2: without a Kind: %s", got)
		}
	}
	if got := truth(t, api.Expr{Op: api.OEq, Type: api.Bool, Args: make([]api.Expr, 3)}, nil); got != "true" {
		t.Errorf("P14.2: without a Kind: %s", got)
	}
	for _, e := range []api.Expr{{Kind: 9}, at(4), node(api.EAgg, api.ACount)} {
		if got := truth(t, e, row()[:4]); got != form {
			t.Errorf("P14.2: %+v: %s", e, got)
		}
	}
}

// untold: expressions that resolve doesn't tell, none of which hangs on a row.
func untold() []api.Expr {
	one, t, bad := constant(integer(1)), constant(yes), constant(textOf("x"))
	l := []api.Expr{
		{}, {Kind: -1}, {Kind: 8}, {Kind: 9}, {Kind: math.MaxInt}, {Kind: math.MinInt},
		{Kind: api.ECol, At: -1}, {Kind: api.ECol, At: math.MinInt}, {Kind: api.ECol, At: math.MaxInt},
		node(api.EValue, 0, one), node(api.ECol, 0, one),
		node(api.EIn, 0), node(api.EIn, 0, one), node(api.EIn, 0, many(api.MaxItems+2, one)...),
		node(api.EIn, 0, one, bad), node(api.EIn, 0, one, constant(null), bad), node(api.EIn, 0, one, api.Expr{}),
		node(api.ECase, 0), node(api.ECase, 0, t), node(api.ECase, 0, many(2*api.MaxItems+2, t)...),
		node(api.ECase, 0, one, one), node(api.ECase, 0, constant(no), one, bad, one), node(api.ECase, 0, t, api.Expr{}),
		node(api.EAgg, api.ASum), node(api.EAgg, api.AMin), node(api.EAgg, api.AMax), node(api.EAgg, 0), node(api.EAgg, 0, one), node(api.EAgg, api.AMax+1, one), node(api.EAgg, api.OOr, one), node(api.EAgg, api.OAdd, one, one),
		node(api.EAgg, api.ACount, one, one), node(api.EAgg, api.AMin, one, one), node(api.EAgg, api.ASum, bad), node(api.EAgg, api.ASum, t),
	}
	for _, v := range wrong() {
		l = append(l, constant(v), node(api.EUnary, api.OIsNull, constant(v)), node(api.EBinary, api.OEq, constant(v), constant(v)), node(api.ECase, 0, t, constant(v)))
	}
	for op := -1; op <= api.AMax+1; op++ {
		l = append(l, node(api.EUnary, op), node(api.EUnary, op, one, one), node(api.EBinary, op), node(api.EBinary, op, one), node(api.EBinary, op, t, t, t))
		if op < api.ONeg || op > api.ONotNull {
			l = append(l, node(api.EUnary, op, one), node(api.EUnary, op, t), node(api.EUnary, op, bad))
		}
		if op < api.OEq || op > api.OOr {
			l = append(l, node(api.EBinary, op, one, one), node(api.EBinary, op, t, t), node(api.EBinary, op, bad, bad))
		}
		if op == api.ONeg || op == api.ONot {
			l = append(l, node(api.EUnary, op, bad))
		}
		if op >= api.OEq && op <= api.OOr {
			l = append(l, node(api.EBinary, op, one, bad), node(api.EBinary, op, bad, one), node(api.EBinary, op, one, api.Expr{}))
		}
	}
	return append(l, node(api.EUnary, api.ONeg, t), node(api.EUnary, api.ONot, one), node(api.EBinary, api.OAnd, t, one), node(api.EBinary, api.OOr, constant(null), bad), node(api.EBinary, api.OAdd, t, t), node(api.EBinary, api.OCat, one, one))
}

func TestUntoldIsRefused(t *testing.T) {
	for _, e := range untold() {
		if got := eval(t, e, row()); got != form {
			t.Errorf("P14.1: %+v: %s", e, got)
		}
		if got := group(t, e, [][]api.Value{row()}); got != form {
			t.Errorf("P14.3: %+v: %s", e, got)
		}
		if got := truth(t, node(api.ECase, 0, constant(yes), e), row()); got != form {
			t.Errorf("P14.2: %+v: %s", e, got)
		}
	}
	for op := api.ACount; op <= api.AMax; op++ {
		e := node(api.EAgg, op, at(0))
		for _, e := range []api.Expr{e, node(api.EAgg, api.ACount), node(api.EUnary, api.OIsNull, e), node(api.EBinary, api.OAnd, constant(yes), node(api.EUnary, api.ONotNull, e))} {
			if got := eval(t, e, row()); got != form {
				t.Errorf("P14.1: an aggregate of one row: %+v: %s", e, got)
			}
		}
	}
	for _, v := range wrong() {
		if got := eval(t, at(0), []api.Value{v}); got != form {
			t.Errorf("P14.1: a value that may not be: %s", got)
		}
	}
}

// TestWrongRowsAnswer: rows with values of other types: an error of the chapter, or none.
func TestWrongRowsAnswer(t *testing.T) {
	values := slices.Concat([]api.Value{null}, samples(api.Bool), samples(api.Int), samples(api.Text), wrong())
	for _, a := range values {
		for _, b := range values {
			two := []api.Value{a, b}
			for op := api.OEq; op <= api.OOr; op++ {
				got := eval(t, node(api.EBinary, op, at(0), at(1)), two)
				if a.Kind != b.Kind && a.Kind != api.Null && b.Kind != api.Null && got != form && !(op == api.OAnd && a == no || op == api.OOr && a == yes) {
					t.Errorf("operator %d: %v, %v: %s", op, a, b, got)
				}
			}
			eval(t, node(api.EIn, 0, at(0), at(1)), two)
			eval(t, node(api.ECase, 0, at(0), at(1)), two)
			for op := api.ACount; op <= api.AMax; op++ {
				group(t, node(api.EAgg, op, at(0)), [][]api.Value{{a}, {b}, {a, b}})
			}
		}
		for op := api.ONeg; op <= api.ONotNull; op++ {
			eval(t, node(api.EUnary, op, at(0)), []api.Value{a})
		}
		truth(t, at(0), []api.Value{a})
	}
}
