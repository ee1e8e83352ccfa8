package resolve_test

import (
	"fmt"
	"testing"

	"consistory/api"
	"consistory/tree"
)

// cols: one of each type, one name twice.
var cols = []api.Column{
	{Name: "i", Type: api.Int}, {Name: "s", Type: api.Text}, {Name: "d", Type: api.Int},
	{Name: "o", Type: api.Bool, NotNull: true}, {Name: "d", Type: api.Int}, {Name: "j", Type: api.Int},
}

func TestExprIsTold(t *testing.T) {
	for s, want := range map[string]string{
		"1":                                   "1:I",
		"NULL":                                "NULL:0",
		"TRUE":                                "TRUE:B",
		"'x'":                                 "'x':T",
		"i":                                   "i@0:I",
		"s":                                   "s@1:T",
		"o":                                   "o@3:B",
		"j":                                   "j@5:I",
		"- j":                                 "(- j@5:I):I",
		"- NULL":                              "(- NULL:0):I",
		"NOT o":                               "(NOT o@3:B):B",
		"NOT NULL":                            "(NOT NULL:0):B",
		"s IS NULL":                           "(NULL? s@1:T):B",
		"NULL IS NOT NULL":                    "(THERE? NULL:0):B",
		"s || 'x' = s":                        "(= (|| s@1:T 'x':T):T s@1:T):B",
		"i + j * 2":                           "(+ i@0:I (* j@5:I 2:I):I):I",
		"i - NULL":                            "(- i@0:I NULL:0):I",
		"NULL / NULL":                         "(/ NULL:0 NULL:0):I",
		"NULL || NULL":                        "(|| NULL:0 NULL:0):T",
		"NULL AND NULL":                       "(AND NULL:0 NULL:0):B",
		"NULL = NULL":                         "(= NULL:0 NULL:0):B",
		"NULL < o":                            "(< NULL:0 o@3:B):B",
		"i IN (1, NULL, j)":                   "(IN i@0:I 1:I NULL:0 j@5:I):B",
		"NULL IN (NULL, s)":                   "(IN NULL:0 NULL:0 s@1:T):B",
		"(i = 1) OR (s > 'x')":                "(OR (= i@0:I 1:I):B (> s@1:T 'x':T):B):B",
		"(i = 1) IN (o, FALSE)":               "(IN (= i@0:I 1:I):B o@3:B FALSE:B):B",
		"CASE WHEN o THEN i END":              "(CASE o@3:B i@0:I):I",
		"CASE WHEN o THEN NULL END":           "(CASE o@3:B NULL:0):0",
		"CASE WHEN NULL THEN NULL ELSE s END": "(CASE NULL:0 NULL:0 s@1:T):T",
		"CASE WHEN o THEN NULL WHEN i = 1 THEN o ELSE NULL END":   "(CASE o@3:B NULL:0 (= i@0:I 1:I):B o@3:B NULL:0):B",
		"CASE WHEN o THEN 1 END + CASE WHEN o THEN NULL END":      "(+ (CASE o@3:B 1:I):I (CASE o@3:B NULL:0):0):I",
		"CASE WHEN o THEN NULL END || 'x'":                        "(|| (CASE o@3:B NULL:0):0 'x':T):T",
		"i BETWEEN 1 AND j":                                       "(AND (>= i@0:I 1:I):B (<= i@0:I j@5:I):B):B",
		"CASE WHEN o THEN 1 WHEN o THEN 2 ELSE 3 END NOT IN (i)":  "(NOT (IN (CASE o@3:B 1:I o@3:B 2:I 3:I):I i@0:I):B):B",
		"i <> 1 AND i <= 1 AND i >= 1 AND NOT o OR i % 2 = j / 3": "(OR (AND (AND (AND (<> i@0:I 1:I):B (<= i@0:I 1:I):B):B (>= i@0:I 1:I):B):B (NOT o@3:B):B):B (= (% i@0:I 2:I):I (/ j@5:I 3:I):I):B):B",
	} {
		e := read(t, s)
		out, c := expr(t, cols, e)
		if c != 0 || show(out) != want {
			t.Errorf("P13.1: %s: class %d, %s, want %s", s, c, show(out), want)
		}
		if !tree.Same(api.Stmt{Where: e}, api.Stmt{Where: out}) {
			t.Errorf("P13.1: %s: another expression: %+v", s, out)
		}
	}
}

func TestExprNames(t *testing.T) {
	for _, s := range []string{"k", "d", "t.i", "i.i", "k + 1", "1 + k", "- d", "i IN (1, k)", "k IN (1)", "CASE WHEN o THEN 1 ELSE k END", "COUNT(k)", "s.s || s"} {
		if _, c := expr(t, cols, read(t, s)); c != api.ErrName {
			t.Errorf("P13.1: %s: class %d", s, c)
		}
	}
	for _, l := range [][]api.Column{nil, {}, {{Name: "j", Type: api.Int}}, {{Type: api.Int}}, {{Name: "I", Type: api.Int}}, many(3, api.Column{Name: "i", Type: api.Int})} {
		if _, c := expr(t, l, col("i")); c != api.ErrName {
			t.Errorf("P13.1: i of %v: class %d", l, c)
		}
		if out, c := expr(t, l, number(1)); c != 0 || show(out) != "1:I" {
			t.Errorf("P13.1: 1 of %v: class %d", l, c)
		}
	}
}

// TestExprAggregates: ErrType of all of them, behind their arguments' own errors.
func TestExprAggregates(t *testing.T) {
	for s, want := range map[string]api.Class{
		"COUNT(*)": api.ErrType, "COUNT(i)": api.ErrType, "SUM(1)": api.ErrType, "MIN(s)": api.ErrType, "MAX(NULL)": api.ErrType,
		"1 + COUNT(*)": api.ErrType, "COUNT(*) + k": api.ErrType, "k + COUNT(*)": api.ErrName, "SUM(k)": api.ErrName, "SUM(k + COUNT(*))": api.ErrName, "SUM(COUNT(*) + k)": api.ErrType,
		"i IN (1, COUNT(*), k)": api.ErrType, "CASE WHEN o THEN SUM(i) ELSE k END": api.ErrType,
	} {
		if _, c := expr(t, cols, read(t, s)); c != want {
			t.Errorf("P13.1: %s: class %d, want %d", s, c, want)
		}
	}
}

// TestExprFirstError: arguments' errors are told ahead of their operator's, from left to right.
func TestExprFirstError(t *testing.T) {
	for s, want := range map[string]api.Class{
		"(i + s) + k":                          api.ErrType,
		"k + (i + s)":                          api.ErrName,
		"s + k":                                api.ErrName,
		"- (s + k)":                            api.ErrName,
		"NOT (i + (k || 1))":                   api.ErrName,
		"(1 || k) + s":                         api.ErrName,
		"(s = 1) AND k":                        api.ErrType,
		"i AND (s = k)":                        api.ErrName,
		"i IN ('x', 1 + k)":                    api.ErrName,
		"i IN ('x' + 1, k)":                    api.ErrType,
		"(- s) IN (k)":                         api.ErrType,
		"CASE WHEN i THEN 1 WHEN o THEN k END": api.ErrName,
		"CASE WHEN o THEN 1 WHEN o THEN 'x' ELSE k END": api.ErrName,
		"CASE WHEN NOT i THEN k END":                    api.ErrType,
		"CASE WHEN o THEN - s ELSE k END":               api.ErrType,
		"CASE WHEN o THEN k ELSE - s END":               api.ErrName,
	} {
		if _, c := expr(t, cols, read(t, s)); c != want {
			t.Errorf("P13.1: %s: class %d, want %d", s, c, want)
		}
	}
}

// samples: an expression of each type.
var samples = [...]api.Expr{null(), truth(1), number(1), text("x")}

// want: what an operator asks of its arguments (0: all of one type), and its own type (-1: theirs).
type want struct{ args, own int }

// wants says P13.1 as a table.
var wants = map[int]want{
	api.ONeg: {api.Int, api.Int}, api.ONot: {api.Bool, api.Bool}, api.OIsNull: {0, api.Bool}, api.ONotNull: {0, api.Bool},
	api.OEq: {0, api.Bool}, api.ONe: {0, api.Bool}, api.OLt: {0, api.Bool}, api.OLe: {0, api.Bool}, api.OGt: {0, api.Bool}, api.OGe: {0, api.Bool},
	api.OAdd: {api.Int, api.Int}, api.OSub: {api.Int, api.Int}, api.OMul: {api.Int, api.Int}, api.ODiv: {api.Int, api.Int}, api.OMod: {api.Int, api.Int},
	api.OCat: {api.Text, api.Text}, api.OAnd: {api.Bool, api.Bool}, api.OOr: {api.Bool, api.Bool},
	api.ACount: {0, api.Int}, api.ASum: {api.Int, api.Int}, api.AMin: {0, -1}, api.AMax: {0, -1},
}

// meet tells the type that all of these are of: of several but NULLs only if they are one, and only kind, if it isn't 0.
func meet(kind int, types ...int) (int, bool) {
	for _, one := range types {
		if one != 0 && kind != 0 && one != kind {
			return 0, false
		}
		kind = max(kind, one)
	}
	return kind, true
}

// eachTypes tells all rows of n types.
func eachTypes(n int, yield func([]int)) {
	for k := range 1 << (2 * n) {
		types := make([]int, n)
		for i := range types {
			types[i] = k >> (2 * i) & 3
		}
		yield(types)
	}
}

func ofTypes(types []int) []api.Expr {
	var l []api.Expr
	for _, kind := range types {
		l = append(l, samples[kind])
	}
	return l
}

// holdsTypes: e is of that type, or refused.
func holdsTypes(t *testing.T, e api.Expr, kind int, right bool) {
	t.Helper()
	out, c := expr(t, nil, e)
	if right && (c != 0 || out.Type != kind) || !right && c != api.ErrType {
		t.Errorf("P13.1: %s: class %d, type %d; want type %d, %v", show(e), c, out.Type, kind, right)
	}
}

// TestTypesOfOperators: all operators on arguments of all types.
func TestTypesOfOperators(t *testing.T) {
	for op := api.ONeg; op <= api.OOr; op++ {
		kind, n := api.EUnary, 1
		if op >= api.OEq {
			kind, n = api.EBinary, 2
		}
		eachTypes(n, func(types []int) {
			_, right := meet(wants[op].args, types...)
			holdsTypes(t, node(kind, op, ofTypes(types)...), wants[op].own, right)
		})
	}
}

func TestTypesOfIn(t *testing.T) {
	for n := 2; n <= 5; n++ {
		eachTypes(n, func(types []int) {
			_, right := meet(0, types...)
			holdsTypes(t, node(api.EIn, 0, ofTypes(types)...), api.Bool, right)
		})
	}
	holdsTypes(t, node(api.EIn, 0, append(many(api.MaxItems, null()), number(1))...), api.Bool, true)
	holdsTypes(t, node(api.EIn, 0, append(append(many(api.MaxItems-1, null()), number(1)), text("1"))...), 0, false)
}

func TestTypesOfCase(t *testing.T) {
	for n := 2; n <= 6; n++ {
		eachTypes(n, func(types []int) {
			var conditions, values []int
			for i, kind := range types {
				if i%2 == 0 && i < n-1 {
					conditions = append(conditions, kind)
				} else {
					values = append(values, kind)
				}
			}
			_, first := meet(api.Bool, conditions...)
			kind, second := meet(0, values...)
			holdsTypes(t, node(api.ECase, 0, ofTypes(types)...), kind, first && second)
		})
	}
	long := append(many(2*api.MaxItems, truth(1)), null())
	holdsTypes(t, node(api.ECase, 0, long...), api.Bool, true)
	long[2*api.MaxItems] = number(1)
	holdsTypes(t, node(api.ECase, 0, long...), 0, false)
}

// TestTypesOfColumns: that of a column, whatever it is.
func TestTypesOfColumns(t *testing.T) {
	for _, kind := range []int{0, 1, 2, 3, 4, 77, -1} {
		l := []api.Column{{Name: "a", Type: 2}, {Name: "b", Type: kind}}
		out, c := expr(t, l, col("b"))
		if c != 0 || out.At != 1 || out.Type != kind {
			t.Errorf("P13.1: type %d: class %d, %+v", kind, c, out)
		}
		out, c = expr(t, l, node(api.EBinary, api.OEq, col("b"), col("b")))
		if c != 0 || out.Type != api.Bool || out.Args[1].Type != kind {
			t.Errorf("P13.1: type %d: class %d, %+v", kind, c, out)
		}
		_, c = expr(t, l, node(api.EBinary, api.OEq, col("a"), col("b")))
		if fits := kind == 0 || kind == 2; fits != (c == 0) || !fits && c != api.ErrType {
			t.Errorf("P13.1: type %d: class %d", kind, c)
		}
	}
}

// TestExprForm: what may be no expression, and too many columns, ahead of all else.
func TestExprForm(t *testing.T) {
	var l []api.Column
	for i := range 65 {
		l = append(l, api.Column{Name: fmt.Sprint("c", i), Type: api.Int})
	}
	out, c := expr(t, l[:64], node(api.EBinary, api.OAdd, col("c0"), col("c63")))
	if c != 0 || show(out) != "(+ c0@0:I c63@63:I):I" {
		t.Errorf("P13.1: class %d, %s", c, show(out))
	}
	for _, e := range []api.Expr{col("c0"), col("zz"), number(1), {}} {
		if _, c := expr(t, l, e); c != api.ErrForm {
			t.Errorf("P13.1: 65 columns: class %d", c)
		}
	}
	told := col("i")
	told.At = 1
	typed := number(1)
	typed.Type = api.Int
	for i, e := range []api.Expr{
		{}, {Kind: 9}, {Kind: -1}, {Kind: api.ECol}, col("I"), col("select"), told, typed,
		{Kind: api.EValue, Value: api.Value{Kind: 9}}, {Kind: api.EValue, Value: api.Value{Kind: api.Bool, Int: 2}},
		node(api.EUnary, api.OAdd, number(1)), node(api.EUnary, api.ONeg), node(api.EBinary, api.OAdd, number(1)), node(api.EBinary, api.ONeg, number(1), number(1)),
		node(api.EIn, 0, number(1)), node(api.EIn, 0, many(12, number(1))...), node(api.ECase, 0, truth(1)), node(api.ECase, 0, many(22, truth(1))...),
		node(api.EAgg, api.ASum), node(api.EAgg, api.ACount, number(1), number(1)), node(api.EAgg, api.OAdd, number(1)),
		node(api.EBinary, api.OAdd, col("zz"), told), node(api.EBinary, api.OAdd, text("x"), api.Expr{}),
	} {
		if _, c := expr(t, cols, e); c != api.ErrForm {
			t.Errorf("P13.1: row %d: class %d", i, c)
		}
	}
}
