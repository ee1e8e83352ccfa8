package plan_test

import (
	"reflect"
	"slices"
	"strings"
	"testing"
	"unsafe"

	"consistory/api"
	"consistory/plan"
)

// samples: statements with ways of all kinds, and some that are refused.
var samples = []string{
	"SELECT * FROM t WHERE a = 5 AND b = 1 AND c = 'it''s'",
	"SELECT c FROM t WHERE c > 'x' AND c < 'y' || 'z' AND a IN (1, 2)",
	"SELECT COUNT(*) FROM t WHERE b BETWEEN 1 AND 5 GROUP BY c HAVING MAX(a) > 5 ORDER BY c",
	"SELECT * FROM t JOIN u ON a = x LEFT JOIN v ON z = c WHERE c = 'x' AND a = 2 + 3",
	"SELECT * FROM t WHERE 1 / b > 0 AND a = 5",
	"UPDATE t SET a = a + 1 WHERE 5 <= a AND CASE WHEN q THEN p ELSE 1 / b = 1 END",
	"DELETE FROM v WHERE z >= 'x' AND w = 'y' AND r = TRUE",
	"DELETE FROM v",
	"SELECT zz FROM t WHERE a = 5",
	"SELECT * FROM t WHERE a = 'x'",
	"INSERT INTO u VALUES (1, 2, 3)",
	"DROP TABLE t",
}

// roomy tells x with lists that have room behind them, and something in it.
func roomy[T any](x T) T {
	x = deepCopy(x)
	for _, v := range slices.Backward(spots(&x)) { // a list is made anew behind what is in it
		if v.Kind() == reflect.Slice && v.Len() > 0 {
			n := v.Len()
			l := reflect.MakeSlice(v.Type(), n+2, n+2)
			reflect.Copy(l, v)
			l.Index(n).Set(v.Index(0))
			l.Index(n + 1).Set(v.Index(n - 1))
			v.Set(l.Slice(0, n))
		}
	}
	return deepCopy(x)
}

// allOf tells x with the room behind its lists as elements, however deep.
func allOf[T any](x T) T {
	x = deepCopy(x)
	var open func(v reflect.Value)
	open = func(v reflect.Value) {
		switch v.Kind() {
		case reflect.Slice:
			v.SetLen(v.Cap())
			for i := range v.Len() {
				open(v.Index(i))
			}
		case reflect.Struct:
			for i := range v.NumField() {
				open(v.Field(i))
			}
		}
	}
	open(reflect.ValueOf(&x).Elem())
	return x
}

func TestArgumentsStayAsTheyAre(t *testing.T) {
	for _, sql := range samples {
		s, x := roomy(schema(t)), roomy(statement(t, sql))
		before, was := allOf(s), allOf(x)
		plan.All(s, x)
		plan.Best(s, x, 60)
		if !reflect.DeepEqual(allOf(s), before) || !reflect.DeepEqual(allOf(x), was) {
			t.Errorf("rule 3: %s: an argument has changed", sql)
		}
	}
}

// TestRoomBehindCountsForNothing: what is told is the same, whatever stands behind a list's end, and whether an empty one is nil.
func TestRoomBehindCountsForNothing(t *testing.T) {
	for _, sql := range samples {
		s, x := schema(t), statement(t, sql)
		a, first := all(t, s, x)
		b, second := all(t, roomy(s), roomy(x))
		if first != second || !equal(a, b) {
			t.Errorf("rule 6: %s: class %d, %v; class %d, %v", sql, first, a, second, b)
		}
		for _, v := range append(spots(&x), spots(&s)...) {
			if v.Kind() == reflect.Slice && v.Len() == 0 {
				v.Set(reflect.MakeSlice(v.Type(), 0, 3))
			}
		}
		if b, second = all(t, s, x); first != second || !equal(a, b) {
			t.Errorf("rule 2: %s: class %d, %v; class %d, %v", sql, first, a, second, b)
		}
	}
}

// lists tells where each list of what x points to begins and ends, its room with it.
func lists(x any) [][2]uintptr {
	var out [][2]uintptr
	for _, v := range spots(x) {
		if v.Kind() == reflect.Slice && v.Cap() > 0 {
			at := v.Pointer()
			out = append(out, [2]uintptr{at, at + uintptr(v.Cap())*v.Type().Elem().Size()})
		}
	}
	return out
}

// texts tells where each text of what x points to lies.
func texts(x any) []*byte {
	var out []*byte
	for _, v := range spots(x) {
		if v.Kind() == reflect.String && v.Len() > 0 {
			out = append(out, unsafe.StringData(v.String()))
		}
	}
	return out
}

func overlap(a, b [2]uintptr) bool { return a[0] < b[1] && b[0] < a[1] }

func TestAnswersAreNewMemory(t *testing.T) {
	tried := 0
	for _, sql := range samples {
		s, x := roomy(schema(t)), roomy(statement(t, sql))
		a, _ := plan.All(s, x)
		b, _ := plan.All(s, x)
		c, _ := plan.Best(s, x, 60)
		d, _ := plan.Best(s, x, 60)
		own := slices.Concat(lists(&a), lists(&b), lists(&c), lists(&d))
		handed := slices.Concat(lists(&s), lists(&x))
		for i, l := range own {
			tried++
			if slices.ContainsFunc(slices.Concat(own[:i], handed), func(o [2]uintptr) bool { return overlap(l, o) }) {
				t.Errorf("rule 3: %s: list %d isn't new", sql, i)
			}
		}
		for _, at := range slices.Concat(texts(&a), texts(&c)) {
			tried++
			if slices.Contains(slices.Concat(texts(&s), texts(&x)), at) {
				t.Errorf("rule 3: %s: a text is an argument's", sql)
			}
		}
	}
	if tried < 50 {
		t.Errorf("too little is tried: %d", tried)
	}
}

func TestAnswersStay(t *testing.T) {
	for _, sql := range samples {
		s, x := schema(t), statement(t, sql)
		a, _ := plan.All(s, x)
		b, _ := plan.All(s, x)
		was := deepCopy(b)
		for _, v := range spots(&a) {
			if v.Kind() == reflect.Slice {
				v.SetLen(v.Cap())
				v.Clear()
			}
		}
		c, _ := plan.All(s, x)
		if !equal(b, was) || !equal(c, was) || !equal(s, schema(t)) || !equal(x, statement(t, sql)) {
			t.Errorf("rules 3, 6: %s: what is done with an answer is seen elsewhere", sql)
		}
	}
}

// row puts n parts behind one another with ANDs between, to the left or to the right.
func row(n int, first, part api.Expr, left bool) api.Expr {
	out := first
	if !left {
		out = part
	}
	for range n {
		if left {
			out = node(api.EBinary, api.OAnd, out, part)
		} else {
			out = node(api.EBinary, api.OAnd, part, out)
		}
	}
	if !left {
		out = node(api.EBinary, api.OAnd, first, out)
	}
	return out
}

// nested puts an expression of type Int under n operators, by turns, none of which errs.
func nested(n int, inside api.Expr) api.Expr {
	two, three := constant(integer(2)), constant(integer(3))
	for i := range n {
		switch i % 3 {
		case 0:
			inside = node(api.EBinary, api.OMod, inside, three)
		case 1:
			inside = node(api.ECase, 0, node(api.EIn, 0, two, inside), two)
		default:
			inside = node(api.EBinary, api.ODiv, inside, two)
		}
	}
	return inside
}

// TestDeep: parts nested as deep as the document's bound.
func TestDeep(t *testing.T) {
	const deep = 1<<16 - 20
	s, x := schema(t), statement(t, "SELECT * FROM t JOIN u ON TRUE WHERE a = 5")
	five, one := x.Where, constant(integer(1))
	zero := node(api.EBinary, api.OEq, node(api.EBinary, api.ODiv, one, col("y")), one)
	check := func(label string, on, where api.Expr, want int) {
		t.Helper()
		x.From[1].On, x.Where = on, where
		if l, c := all(t, s, x); c != 0 || len(l) != want {
			t.Errorf("rule 8: %s: class %d, %d ways, want %d", label, c, len(l), want)
		}
	}
	yes := constant(yes)
	for _, left := range []bool{true, false} {
		check("tests", yes, row(deep, five, node(api.EBinary, api.OEq, col("x"), one), left), 3)
		check("many tests", yes, row(deep, five, five, left), 3)
		check("errors behind", yes, row(deep, five, zero, left), 3)
		check("errors ahead", yes, node(api.EBinary, api.OAnd, row(deep, zero, zero, left), five), 1)
	}
	e := node(api.EBinary, api.OEq, nested(deep, col("y")), one)
	check("calm parts", e, node(api.EBinary, api.OAnd, e, five), 3)
	e = node(api.EBinary, api.OEq, nested(deep, constant(integer(7))), one)
	check("values", e, node(api.EBinary, api.OAnd, e, five), 3)
	e = node(api.EBinary, api.OEq, nested(deep, node(api.EUnary, api.ONeg, col("y"))), one)
	check("errors in On", e, five, 1)
	check("errors in Where", yes, node(api.EBinary, api.OAnd, e, five), 1)
}

// TestLongTexts: a key's bound of a text as long as may be, and one that is too long once it is put together.
func TestLongTexts(t *testing.T) {
	long := strings.Repeat("x", api.MaxText)
	for sql, want := range map[string]int{"c = '" + long + "'": 2, "c = '" + long + "' || ''": 2, "c = '" + long + "' || 'x'": 1} {
		if l := told(t, "DELETE FROM t WHERE "+sql); len(l) != want {
			t.Errorf("P15.3: %s: %v", sql, l)
		}
	}
}
