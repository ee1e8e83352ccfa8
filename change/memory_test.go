package change_test

import (
	"reflect"
	"slices"
	"strings"
	"testing"
	"time"
	"unsafe"

	"consistory/api"
	"consistory/change"
	"consistory/table"
)

// samples: statements of all kinds to the keyed store, and some that are refused.
var samples = []string{
	"CREATE TABLE ab (a INT PRIMARY KEY, bc TEXT NOT NULL, UNIQUE (bc, a), c BOOL)",
	"CREATE UNIQUE INDEX ok ON w (e, f)",
	"CREATE INDEX ok ON t (a, d)",
	"DROP TABLE v",
	"DROP INDEX k",
	"INSERT INTO v VALUES (77, 5, 'some text'), (78, NULL, NULL), (79, 1 + 2, 'ab' || 'c')",
	"INSERT INTO v (z, x) VALUES ('q', 0), ('longer', 1)",
	"UPDATE t SET d = 'it''s', b = a / 2 WHERE a = 5 AND b IS NOT NULL",
	"UPDATE w SET e = CASE WHEN f THEN 1 ELSE e END",
	"UPDATE v SET z = NULL WHERE z = 'x' AND y > 0",
	"DELETE FROM v WHERE z >= 'x'",
	"DELETE FROM t WHERE a IN (1, 5) AND d <> 'x'",
	"SELECT a AS n, d || 'it''s', 'x' AS y FROM t WHERE c < 'y' AND a IN (1, 2) ORDER BY a LIMIT 7",
	"SELECT * FROM v JOIN w ON TRUE WHERE x = 5",
	"UPDATE t SET c = 'x', a = 1, b = 1, q = TRUE",
	"UPDATE t SET b = 1 / b WHERE a = 5",
	"INSERT INTO v VALUES (1 / 0, 2, 'some text')",
	"DELETE FROM t WHERE zz = 5",
	"DROP TABLE zz",
}

// roomy tells x with lists that have room behind them, and something in it; its texts are nobody else's.
func roomy[T any](x T) T {
	x = deepCopy(x)
	for _, v := range slices.Backward(spots(&x)) { // a list is made anew behind what is in it
		switch {
		case v.Kind() == reflect.String:
			v.SetString(strings.Clone(v.String()))
		case v.Kind() == reflect.Slice && v.Len() > 0:
			n := v.Len()
			l := reflect.MakeSlice(v.Type(), n+2, n+2)
			reflect.Copy(l, v)
			l.Index(n).Set(v.Index(0))
			l.Index(n + 1).Set(v.Index(n - 1))
			v.Set(l.Slice(0, n))
		}
	}
	return deepCopy(x)
}

// allOf tells x with the room behind its lists as elements, however deep.
func allOf[T any](x T) T {
	x = deepCopy(x)
	var open func(v reflect.Value)
	open = func(v reflect.Value) {
		switch v.Kind() {
		case reflect.Slice:
			v.SetLen(v.Cap())
			for i := range v.Len() {
				open(v.Index(i))
			}
		case reflect.Struct:
			for i := range v.NumField() {
				open(v.Field(i))
			}
		}
	}
	open(reflect.ValueOf(&x).Elem())
	return x
}

// wipe takes away all that x points to has in its lists, the room behind them with it.
func wipe(x any) {
	for _, v := range spots(x) {
		if v.Kind() == reflect.Slice {
			v.SetLen(v.Cap())
			v.Clear()
		}
	}
}

func samplesOf(t *testing.T, do func(sql string, store *table.Store, x api.Stmt)) {
	t.Helper()
	for _, sql := range samples {
		do(sql, keyed(t, byChance(1)), roomy(statement(t, sql)))
	}
}

func TestArgumentsStayAsTheyAre(t *testing.T) {
	samplesOf(t, func(sql string, store *table.Store, x api.Stmt) {
		was := allOf(x)
		did(t, store, x)
		if !reflect.DeepEqual(allOf(x), was) {
			t.Errorf("rule 3: %s: an argument has changed", sql)
		}
	})
}

// TestRoomBehindCountsForNothing: what is told and done is the same, whatever stands behind a list's end, and whether an empty one is nil.
func TestRoomBehindCountsForNothing(t *testing.T) {
	samplesOf(t, func(sql string, store *table.Store, x api.Stmt) {
		bare := statement(t, sql)
		one, other := store.Clone(), store.Clone()
		want, class := did(t, store, bare)
		got, c := did(t, one, x)
		if c != class || !equal(got, want) || !equal(stateOf(one), stateOf(store)) {
			t.Errorf("rule 6: %s: %s, want %s", sql, say(got, c), say(want, class))
		}
		for _, v := range spots(&bare) {
			if v.Kind() == reflect.Slice && v.Len() == 0 {
				v.Set(reflect.MakeSlice(v.Type(), 0, 3))
			}
		}
		got, c = did(t, other, bare)
		if c != class || !equal(got, want) || !equal(stateOf(other), stateOf(store)) {
			t.Errorf("rule 2: %s: %s, want %s", sql, say(got, c), say(want, class))
		}
	})
}

// texts tells where each text of what x points to lies.
func texts(x any) []*byte {
	var out []*byte
	for _, v := range spots(x) {
		if v.Kind() == reflect.String && v.Len() > 0 {
			out = append(out, unsafe.StringData(v.String()))
		}
	}
	return out
}

// lies: whether at is within text.
func lies(at *byte, text string) bool {
	from := uintptr(unsafe.Pointer(unsafe.StringData(text)))
	here := uintptr(unsafe.Pointer(at))
	return here >= from && here < from+uintptr(len(text))
}

// TestNothingIsKept: what was handed in may become anything: the store has its own.
func TestNothingIsKept(t *testing.T) {
	samplesOf(t, func(sql string, store *table.Store, x api.Stmt) {
		a, _ := did(t, store, x)
		was, told := stateOf(store), deepCopy(a)
		handed := texts(&x)
		now := stateOf(store)
		for _, at := range append(texts(&a), texts(&now)...) {
			if slices.Contains(handed, at) {
				t.Errorf("rule 3: %s: a text is the statement's", sql)
			}
		}
		wipe(&x)
		if !equal(stateOf(store), was) || !equal(a, told) {
			t.Errorf("rule 3: %s: what is done with a statement is seen in the store", sql)
		}
		wipe(&a)
		if !equal(stateOf(store), was) {
			t.Errorf("rule 3: %s: what is done with an answer is seen in the store", sql)
		}
		other := keyed(t, byChance(1))
		text := strings.Clone(sql)
		a, _ = change.Run(other, text)
		now = stateOf(other)
		for _, at := range append(texts(&a), texts(&now)...) {
			if lies(at, text) {
				t.Errorf("rule 3: %s: a text is the statement's", sql)
			}
		}
	})
}

// TestAnswersStay: an answer doesn't hang on what the store becomes, nor on what is done with another one.
func TestAnswersStay(t *testing.T) {
	store := keyed(t, byChance(1))
	x := statement(t, "SELECT a, c, d, 'x' FROM t ORDER BY a, c, d")
	a, _ := did(t, store, x)
	b, _ := did(t, store, x)
	was := deepCopy(b)
	wipe(&a)
	did(t, store, statement(t, "UPDATE t SET d = 'other', a = 8 - a / 2"))
	did(t, store, statement(t, "DELETE FROM t"))
	if !equal(b, was) || len(b.Rows) == 0 {
		t.Error("rule 3: an answer has changed with the store")
	}
}

// deepParts puts an expression under n operators, by turns, none of which errs.
func deepParts(n int, inside api.Expr) api.Expr {
	two, three := constant(integer(2)), constant(integer(3))
	for i := range n {
		switch i % 3 {
		case 0:
			inside = node(api.EBinary, api.OMod, inside, three)
		case 1:
			inside = node(api.ECase, 0, node(api.EIn, 0, two, inside), two, three)
		default:
			inside = node(api.EBinary, api.ODiv, two, node(api.EBinary, api.OAdd, inside, three))
		}
	}
	return inside
}

// TestDeep: parts nested as deep as the document's bound, in each clause.
func TestDeep(t *testing.T) {
	const deep = 1<<16 - 20
	store := filled(t, "CREATE TABLE t (a INT, b INT)", "CREATE INDEX i ON t (a)")
	start := time.Now()
	x := statement(t, "INSERT INTO t VALUES (0, 1), (1, 0), (2, 2)")
	x.Rows[0][1] = deepParts(deep, constant(integer(5)))
	if a, c := did(t, store, x); c != 0 || a.Count != 3 {
		t.Errorf("rule 8: class %d, %v", c, a)
	}
	x.Rows[0][0] = deepParts(deep, node(api.EBinary, api.ODiv, constant(integer(1)), constant(integer(0))))
	if _, c := did(t, store, x); c != api.ErrZero {
		t.Errorf("rule 8: class %d", c)
	}
	is := node(api.EUnary, api.ONotNull, deepParts(deep, col("a")))
	x = statement(t, "UPDATE t SET b = 1 WHERE TRUE")
	x.Sets[0].Expr, x.Where = deepParts(deep, col("b")), is
	if a, c := did(t, store, x); c != 0 || a.Count != 3 {
		t.Errorf("rule 8: class %d, %v", c, a)
	}
	x = statement(t, "DELETE FROM t WHERE TRUE")
	x.Where = node(api.EBinary, api.OAnd, node(api.EBinary, api.OLt, col("a"), constant(integer(2))), is)
	if a, c := did(t, store, x); c != 0 || a.Count != 2 {
		t.Errorf("rule 8: class %d, %v", c, a)
	}
	if took := time.Since(start); took > 20*time.Second {
		t.Errorf("rule 8: %s", took)
	}
}

// TestMuch: as many rows, columns and keys as may be, written again and again.
func TestMuch(t *testing.T) {
	store := filled(t, "CREATE TABLE t (a INT PRIMARY KEY, b INT, c INT, d INT, e TEXT, f TEXT)", "CREATE INDEX i ON t (b, c, d, e, f)", "CREATE UNIQUE INDEX j ON t (f, e, d, c, b, a)", "CREATE INDEX k ON t (e)")
	const long = "'0123456789012345678901234567890123456789'"
	start := time.Now()
	for n := range 6 {
		var l []string
		for k := range 10 {
			l = append(l, "("+strings.Repeat(string(rune('0'+n))+string(rune('0'+k))+", ", 4)+long+", "+long+")")
		}
		if a, c := did(t, store, statement(t, "INSERT INTO t VALUES "+strings.Join(l, ", "))); c != 0 || a.Count != 10 {
			t.Fatalf("P17.1: class %d, %v", c, a)
		}
	}
	for range 200 {
		if a, c := did(t, store, statement(t, "UPDATE t SET a = 59 - a, b = b + a, c = c - 1, d = 1 - d, e = f, f = e WHERE a >= 0 AND e >= ''")); c != 0 || a.Count != 60 {
			t.Fatalf("P17.1: class %d, %v", c, a)
		}
	}
	if a, c := did(t, store, statement(t, "SELECT COUNT(*), SUM(a), SUM(c) FROM t")); say(a, c) != "col1 col2 col3: 60 1770 -10230" {
		t.Errorf("P17.1: %s", say(a, c))
	}
	if took := time.Since(start); took > 20*time.Second {
		t.Errorf("P17.1: %s", took)
	}
}
