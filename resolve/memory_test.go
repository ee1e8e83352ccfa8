package resolve_test

import (
	"reflect"
	"slices"
	"testing"
	"unsafe"

	"consistory/api"
	"consistory/resolve"
)

// samplesOfAll: one of each kind that has all that it may have, and some that are refused.
var samplesOfAll = []string{
	"CREATE TABLE z (a INT PRIMARY KEY, b TEXT UNIQUE, UNIQUE (a, b))",
	"CREATE UNIQUE INDEX l ON u (x, a)",
	"DROP TABLE t",
	"DROP INDEX i",
	"INSERT INTO t VALUES (1 + 1, 'x', NULL), (2, 'y' || 'z', TRUE)",
	"INSERT INTO t (b, a) VALUES ('x', 1), ('y', 2)",
	"UPDATE t SET a = t.a + 1, b = b || 'x' WHERE c AND a IN (1, 2, t.a)",
	"DELETE FROM t WHERE NOT (c OR a = 1)",
	"SELECT *, a + 1 AS y, * FROM t ORDER BY a DESC, b || 'x' LIMIT 5",
	"SELECT DISTINCT *, x || 'q' AS y FROM t JOIN u z ON z.a = t.a LEFT JOIN v ON y OR t.c WHERE b = x ORDER BY x || 'q', z.a DESC",
	"SELECT c, MAX(a + 1) AS m, COUNT(*) FROM t WHERE a > 1 GROUP BY c, t.b HAVING SUM(a) > 1 ORDER BY c, CASE WHEN c THEN MIN(b) ELSE t.b END",
	"DROP TABLE z",
	"INSERT INTO t VALUES (1, 'x', 2)",
	"UPDATE t SET a = 1, zz = 2",
	"SELECT *, a + b FROM t",
	"SELECT *, *, *, p FROM w ORDER BY p + 1",
}

// roomy tells x with lists that have room behind them, and something in it.
func roomy[T any](x T) T {
	x = deepCopy(x)
	for _, s := range slices.Backward(spots(&x)) { // a list is made anew behind what is in it
		if s.v.Kind() == reflect.Slice && s.v.Len() > 0 {
			n := s.v.Len()
			l := reflect.MakeSlice(s.v.Type(), n+2, n+2)
			reflect.Copy(l, s.v)
			l.Index(n).Set(s.v.Index(0))
			l.Index(n + 1).Set(s.v.Index(n - 1))
			s.v.Set(l.Slice(0, n))
		}
	}
	return deepCopy(x)
}

// allOf tells x with the room behind its lists as elements, however deep.
func allOf[T any](x T) T {
	x = deepCopy(x)
	var open func(v reflect.Value)
	open = func(v reflect.Value) {
		switch v.Kind() {
		case reflect.Slice:
			v.SetLen(v.Cap())
			for i := range v.Len() {
				open(v.Index(i))
			}
		case reflect.Struct:
			for i := range v.NumField() {
				open(v.Field(i))
			}
		}
	}
	open(reflect.ValueOf(&x).Elem())
	return x
}

func TestArgumentsStayAsTheyAre(t *testing.T) {
	for _, sql := range samplesOfAll {
		s, x := roomy(schema(t)), roomy(statement(t, sql))
		before, was := allOf(s), allOf(x)
		resolve.Stmt(s, x)
		if !reflect.DeepEqual(allOf(s), before) || !reflect.DeepEqual(allOf(x), was) {
			t.Errorf("rule 3: %s: an argument has changed", sql)
		}
		l := roomy(s.Tables[0].Cols)
		shut := allOf(l)
		for _, e := range whole(x) {
			e = roomy(e)
			was := allOf(e)
			resolve.Expr(l, e)
			if !reflect.DeepEqual(allOf(e), was) || !reflect.DeepEqual(allOf(l), shut) {
				t.Errorf("rule 3: %s: an argument of Expr has changed", sql)
			}
		}
	}
}

// lists tells where each list of what x points to begins and ends, its room with it.
func lists(x any) [][2]uintptr {
	var out [][2]uintptr
	for _, s := range spots(x) {
		if s.v.Kind() == reflect.Slice && s.v.Cap() > 0 {
			at := s.v.Pointer()
			out = append(out, [2]uintptr{at, at + uintptr(s.v.Cap())*s.v.Type().Elem().Size()})
		}
	}
	return out
}

// texts tells where each text of what x points to lies.
func texts(x any) map[*byte]string {
	out := map[*byte]string{}
	for _, s := range spots(x) {
		if s.v.Kind() == reflect.String && s.v.Len() > 0 {
			out[unsafe.StringData(s.v.String())] = s.path
		}
	}
	return out
}

func overlap(a, b [2]uintptr) bool { return a[0] < b[1] && b[0] < a[1] }

// apart: no two lists of an answer share memory, nor any with others; no text is an argument's.
func apart(t *testing.T, label string, answer any, others, arguments []any) {
	t.Helper()
	own := lists(answer)
	for i, l := range own {
		for k, other := range own {
			if i != k && overlap(l, other) {
				t.Errorf("rule 3: %s: lists %d and %d share memory", label, i, k)
			}
		}
		for _, x := range append(others, arguments...) {
			for _, other := range lists(x) {
				if overlap(l, other) {
					t.Errorf("rule 3: %s: list %d is an argument's or another answer's", label, i)
				}
			}
		}
	}
	mine := texts(answer)
	for _, x := range arguments {
		for at := range texts(x) {
			if mine[at] != "" {
				t.Errorf("rule 3: %s: %s is an argument's", label, mine[at])
			}
		}
	}
}

func TestAnswersAreNewMemory(t *testing.T) {
	for _, sql := range samplesOfAll {
		s, x := roomy(schema(t)), roomy(statement(t, sql))
		if len(x.Rows) > 1 { // one list at two places is two in the answer
			x.Rows[1] = x.Rows[0]
		}
		if len(x.Order) > 1 {
			x.Order[1] = x.Order[0]
		}
		a, _ := resolve.Stmt(s, x)
		b, _ := resolve.Stmt(s, x)
		apart(t, sql, &a, []any{&b}, []any{&s, &x})
		cols := s.Tables[0].Cols
		for _, e := range whole(x) {
			a, _ := resolve.Expr(cols, e)
			b, _ := resolve.Expr(cols, e)
			apart(t, sql, &a, []any{&b}, []any{&cols, &e})
		}
	}
}

func TestAnswersStay(t *testing.T) {
	for _, sql := range samplesOfAll {
		s, x := schema(t), statement(t, sql)
		a, _ := resolve.Stmt(s, x)
		b, _ := resolve.Stmt(s, x)
		was := deepCopy(b)
		for _, place := range spots(&a) {
			if place.v.Kind() == reflect.Slice {
				place.v.SetLen(place.v.Cap())
				place.v.Clear()
			}
		}
		c, _ := resolve.Stmt(s, x)
		if !equal(b, was) || !equal(c, was) || !equal(s, schema(t)) || !equal(x, statement(t, sql)) {
			t.Errorf("rules 3, 6: %s: what is done with an answer is seen elsewhere", sql)
		}
	}
}

// TestRoomBehindCountsForNothing: what is told is the same, whatever stands behind a list's end, and whether an empty one is nil.
func TestRoomBehindCountsForNothing(t *testing.T) {
	for _, sql := range samplesOfAll {
		x := statement(t, sql)
		a, first := stmt(t, schema(t), x)
		b, second := stmt(t, roomy(schema(t)), roomy(x))
		if first != second || !equal(a, b) {
			t.Errorf("rule 6: %s: class %d, %s; class %d, %s", sql, first, showStmt(a), second, showStmt(b))
		}
		for _, s := range spots(&x) {
			if s.v.Kind() == reflect.Slice && s.v.Len() == 0 {
				s.v.Set(reflect.MakeSlice(s.v.Type(), 0, 3))
			}
		}
		if b, second = stmt(t, schema(t), x); first != second || !equal(a, b) {
			t.Errorf("rule 2: %s: class %d, %s; class %d, %s", sql, first, showStmt(a), second, showStmt(b))
		}
	}
}

// nested puts an expression of type Int under n operators, by turns.
func nested(n int, inside api.Expr) api.Expr {
	for i := range n {
		switch i % 4 {
		case 0:
			inside = node(api.EBinary, api.OAdd, number(1), inside)
		case 1:
			inside = node(api.EIn, 0, inside, number(2))
		case 2:
			inside = node(api.ECase, 0, inside, number(3))
		default:
			inside = node(api.EUnary, api.ONeg, inside)
		}
	}
	return inside
}

// TestDeep: parts nested as deep as the document's bound.
func TestDeep(t *testing.T) {
	const deep = 1<<16 - 4
	l := []api.Column{{Name: "a", Type: api.Int}}
	out, c := expr(t, l, nested(deep, col("a")))
	parts := 0
	for ; out.Kind > api.ECol && out.Type != 0; parts++ {
		inside := 0
		if out.Kind == api.EBinary {
			inside = 1
		}
		out = out.Args[inside]
	}
	if c != 0 || parts != deep || show(out) != "a@0:I" {
		t.Fatalf("rule 8: class %d, %d parts", c, parts)
	}
	for want, inside := range map[api.Class]api.Expr{api.ErrName: col("zz"), api.ErrType: text("x")} {
		e := nested(deep, inside)
		if _, c := expr(t, l, e); c != want {
			t.Errorf("rule 8: class %d, want %d", c, want)
		}
		x := statement(t, "SELECT DISTINCT a FROM t ORDER BY a")
		x.Items[0].Expr, x.Order[0].Expr = e, e
		_, err := resolve.Stmt(schema(t), x)
		if class(t, err) != want || len(err.Error()) > 100 {
			t.Errorf("rule 8: %v, want class %d", err, want)
		}
	}
	x := statement(t, "SELECT DISTINCT a FROM t ORDER BY a")
	x.Items[0].Expr, x.Order[0].Expr = nested(deep, node(api.EAgg, api.ACount)), nested(deep, node(api.EAgg, api.ACount))
	if _, c := stmt(t, schema(t), x); c != 0 {
		t.Errorf("rule 8: class %d", c)
	}
}
