package exec_test

import (
	"reflect"
	"slices"
	"strings"
	"testing"
	"time"
	"unsafe"

	"consistory/api"
	"consistory/exec"
	"consistory/table"
)

// samples: questions of all kinds to the keyed store, and some that are refused.
var samples = []string{
	"SELECT * FROM t WHERE a = 5 AND b = 1",
	"SELECT a AS n, c || 'it''s', 'x' AS y, d FROM t WHERE c < 'y' AND a IN (1, 2, 5) ORDER BY d DESC, a LIMIT 7",
	"SELECT DISTINCT c, d, 'abc' FROM t ORDER BY d LIMIT 20",
	"SELECT c, MAX(d), MIN('some text'), COUNT(*) FROM t WHERE b BETWEEN 0 AND 5 GROUP BY c HAVING MAX(a) >= 0 ORDER BY c",
	"SELECT *, v.z FROM v LEFT JOIN w ON x = e WHERE x >= 0",
	"SELECT v.z, o.z, e, f FROM v LEFT JOIN w ON x = e JOIN v o ON o.z <= v.z WHERE v.y = 1",
	"SELECT COUNT(*) FROM w LEFT JOIN v ON FALSE WHERE f = TRUE",
	"SELECT * FROM v JOIN w ON TRUE",
	"SELECT v.z || 'x', v.z FROM v",
	"SELECT 1 FROM t HAVING MAX(c) = 'x'",
	"SELECT 1 / b FROM t WHERE a = 5",
	"SELECT zz FROM t WHERE a = 5",
	"DELETE FROM v WHERE z >= 'x'",
	"DROP TABLE t",
}

// roomy tells x with lists that have room behind them, and something in it; its texts are nobody else's.
func roomy[T any](x T) T {
	x = deepCopy(x)
	for _, v := range slices.Backward(spots(&x)) { // a list is made anew behind what is in it
		switch {
		case v.Kind() == reflect.String:
			v.SetString(strings.Clone(v.String()))
		case v.Kind() == reflect.Slice && v.Len() > 0:
			n := v.Len()
			l := reflect.MakeSlice(v.Type(), n+2, n+2)
			reflect.Copy(l, v)
			l.Index(n).Set(v.Index(0))
			l.Index(n + 1).Set(v.Index(n - 1))
			v.Set(l.Slice(0, n))
		}
	}
	return deepCopy(x)
}

// allOf tells x with the room behind its lists as elements, however deep.
func allOf[T any](x T) T {
	x = deepCopy(x)
	var open func(v reflect.Value)
	open = func(v reflect.Value) {
		switch v.Kind() {
		case reflect.Slice:
			v.SetLen(v.Cap())
			for i := range v.Len() {
				open(v.Index(i))
			}
		case reflect.Struct:
			for i := range v.NumField() {
				open(v.Field(i))
			}
		}
	}
	open(reflect.ValueOf(&x).Elem())
	return x
}

// wipe takes away all that x points to has in its lists, the room behind them with it.
func wipe(x any) {
	for _, v := range spots(x) {
		if v.Kind() == reflect.Slice {
			v.SetLen(v.Cap())
			v.Clear()
		}
	}
}

// answers: what all calls tell.
type answers struct {
	Query, By api.Answer
	Joined    [][]api.Value
}

func askAll(store *table.Store, x api.Stmt, w api.Way) (out answers) {
	out.Query, _ = exec.Query(store, x)
	out.By, _ = exec.By(store, x, w)
	out.Joined, _ = exec.Joined(store, x)
	return out
}

// oneWay: by the first key, which each table of the keyed store begins with, values and a bound, all of which are of use.
func oneWay() api.Way {
	return roomy(api.Way{Key: 1, Eq: []api.Value{integer(1)}, Lo: integer(0), HasLo: true})
}

func samplesOf(t *testing.T, do func(sql string, store *table.Store, x api.Stmt)) {
	t.Helper()
	for _, sql := range samples {
		do(sql, keyed(t, byChance(1)), roomy(statement(t, sql)))
	}
}

func TestArgumentsStayAsTheyAre(t *testing.T) {
	samplesOf(t, func(sql string, store *table.Store, x api.Stmt) {
		w := oneWay()
		was, before := allOf(x), allOf(w)
		schema, data := store.Schema(), store.Data()
		askAll(store, x, w)
		if !reflect.DeepEqual(allOf(x), was) || !reflect.DeepEqual(allOf(w), before) {
			t.Errorf("rule 3: %s: an argument has changed", sql)
		}
		if !equal(store.Schema(), schema) || !equal(store.Data(), data) {
			t.Errorf("rule 3: %s: the store has changed", sql)
		}
	})
}

// TestRoomBehindCountsForNothing: what is told is the same, whatever stands behind a list's end, and whether an empty one is nil.
func TestRoomBehindCountsForNothing(t *testing.T) {
	samplesOf(t, func(sql string, store *table.Store, x api.Stmt) {
		bare := statement(t, sql)
		want := askAll(store, bare, api.Way{Key: 1, Eq: []api.Value{integer(1)}, Lo: integer(0), HasLo: true})
		if got := askAll(store, x, oneWay()); !equal(got, want) {
			t.Errorf("rule 6: %s: %+v, want %+v", sql, got, want)
		}
		w := oneWay()
		for _, v := range append(spots(&bare), spots(&w)...) {
			if v.Kind() == reflect.Slice && v.Len() == 0 {
				v.Set(reflect.MakeSlice(v.Type(), 0, 3))
			}
		}
		if got := askAll(store, bare, w); !equal(got, want) {
			t.Errorf("rule 2: %s: %+v, want %+v", sql, got, want)
		}
	})
}

// lists tells where each list of what x points to begins and ends, its room with it.
func lists(x any) [][2]uintptr {
	var out [][2]uintptr
	for _, v := range spots(x) {
		if v.Kind() == reflect.Slice && v.Cap() > 0 {
			at := v.Pointer()
			out = append(out, [2]uintptr{at, at + uintptr(v.Cap())*v.Type().Elem().Size()})
		}
	}
	return out
}

// texts tells where each text of what x points to lies.
func texts(x any) []*byte {
	var out []*byte
	for _, v := range spots(x) {
		if v.Kind() == reflect.String && v.Len() > 0 {
			out = append(out, unsafe.StringData(v.String()))
		}
	}
	return out
}

func TestAnswersAreNewMemory(t *testing.T) {
	tried := 0
	samplesOf(t, func(sql string, store *table.Store, x api.Stmt) {
		w := oneWay()
		a, b := askAll(store, x, w), askAll(store, x, everyRow)
		var own [][2]uintptr
		for _, l := range [][][2]uintptr{lists(&a), lists(&b), lists(&x), lists(&w)} {
			own = append(own, l...)
		}
		slices.SortFunc(own, func(a, b [2]uintptr) int { return int(int64(a[0]) - int64(b[0])) })
		for i := 1; i < len(own); i++ {
			tried++
			if own[i][0] < own[i-1][1] {
				t.Errorf("rule 3: %s: two lists share memory", sql)
			}
		}
		handed := append(texts(&x), texts(&w)...)
		for _, at := range append(texts(&a), texts(&b)...) {
			if slices.Contains(handed, at) {
				t.Errorf("rule 3: %s: a text is an argument's", sql)
			}
		}
	})
	if tried < 1000 {
		t.Errorf("too little is tried: %d", tried)
	}
}

func TestAnswersStay(t *testing.T) {
	samplesOf(t, func(sql string, store *table.Store, x api.Stmt) {
		a, b := askAll(store, x, everyRow), askAll(store, x, everyRow)
		was, data, schema := deepCopy(b), store.Data(), store.Schema()
		wipe(&a)
		c := askAll(store, x, everyRow)
		if !equal(b, was) || !equal(c, was) {
			t.Errorf("rules 3, 6: %s: what is done with an answer is seen elsewhere", sql)
		}
		if !equal(store.Data(), data) || !equal(store.Schema(), schema) || !equal(x, statement(t, sql)) {
			t.Errorf("rules 3, 6: %s: what is done with an answer is seen in what was asked", sql)
		}
		for i := range data.Rows { // an answer doesn't hang on what the store becomes
			for _, r := range data.Rows[i] {
				if err := store.Write(i, nil, []uint64{r.Id}, nil); err != nil {
					t.Fatal(err)
				}
			}
		}
		if !equal(b, was) {
			t.Errorf("rule 3: %s: an answer has changed with the store", sql)
		}
	})
}

// TestClones: what is asked of one store hangs on its own rows alone; and on these, not on how they came to be there.
func TestClones(t *testing.T) {
	samplesOf(t, func(sql string, store *table.Store, x api.Stmt) {
		want := askAll(store, x, everyRow)
		clone := store.Clone()
		again, err := table.Of(store.Schema(), store.Data())
		if err != nil {
			t.Fatal(err)
		}
		for _, r := range store.Data().Rows[0] {
			if err := store.Write(0, nil, []uint64{r.Id}, nil); err != nil {
				t.Fatal(err)
			}
		}
		if !equal(askAll(clone, x, everyRow), want) || !equal(askAll(again, x, everyRow), want) {
			t.Errorf("rule 6: %s: the same store tells something else", sql)
		}
	})
}

// deepParts puts an expression under n operators, by turns, none of which errs.
func deepParts(n int, inside api.Expr) api.Expr {
	two, three := constant(integer(2)), constant(integer(3))
	for i := range n {
		switch i % 3 {
		case 0:
			inside = node(api.EBinary, api.OMod, inside, three)
		case 1:
			inside = node(api.ECase, 0, node(api.EIn, 0, two, inside), two, three)
		default:
			inside = node(api.EBinary, api.ODiv, two, node(api.EBinary, api.OAdd, inside, three))
		}
	}
	return inside
}

// TestDeep: parts nested as deep as the document's bound, in each clause; an aggregate at the bottom.
func TestDeep(t *testing.T) {
	const deep = 1<<16 - 20
	store := filled(t, "CREATE TABLE t (a INT, b INT)", "CREATE TABLE u (c INT)", "INSERT INTO t VALUES (0, 1), (1, 0)", "INSERT INTO u VALUES (7)")
	x := statement(t, "SELECT 1 FROM t JOIN u ON TRUE WHERE TRUE")
	e := deepParts(deep, col("a"))
	is := node(api.EUnary, api.ONotNull, e)
	x.From[1].On, x.Where = is, is
	x.Items[0].Expr, x.Order = e, []api.Order{{Expr: e}}
	start := time.Now()
	if a, c := query(t, store, x); c != 0 || len(a.Rows) != 2 {
		t.Errorf("rule 8: class %d, %v", c, a)
	}
	e = deepParts(deep, node(api.EAgg, api.ASum, col("a")))
	x.Items[0].Expr, x.Order, x.Having = e, []api.Order{{Expr: e}}, node(api.EUnary, api.ONotNull, e)
	if a, c := query(t, store, x); c != 0 || len(a.Rows) != 1 {
		t.Errorf("rule 8: class %d, %v", c, a)
	}
	e = deepParts(deep, node(api.EBinary, api.ODiv, constant(integer(1)), col("a")))
	x.Items[0].Expr, x.Order, x.Having = e, nil, api.Expr{}
	if _, c := query(t, store, x); c != api.ErrZero {
		t.Errorf("rule 8: class %d", c)
	}
	if took := time.Since(start); took > 20*time.Second {
		t.Errorf("rule 8: %s", took)
	}
}

// TestMuch: as many rows as may be, in each step.
func TestMuch(t *testing.T) {
	s := sized(t, 50, 40, 10)
	for sql, want := range map[string]int{
		"SELECT * FROM a JOIN b ON TRUE JOIN c ON TRUE":                                                      20000,
		"SELECT DISTINCT i, j, k FROM a JOIN b ON TRUE JOIN c ON TRUE":                                       20000,
		"SELECT DISTINCT j % 7, k FROM a JOIN b ON TRUE JOIN c ON TRUE":                                      70,
		"SELECT i, j, k, COUNT(*) FROM a JOIN b ON TRUE JOIN c ON TRUE GROUP BY k, j, i HAVING COUNT(*) = 1": 20000,
		"SELECT i, COUNT(*) FROM a JOIN b ON TRUE JOIN c ON TRUE GROUP BY i HAVING COUNT(*) = 400":           50,
		"SELECT i, j FROM a JOIN b ON TRUE JOIN c ON TRUE ORDER BY k DESC, (i + j) % 5, j LIMIT 15000":       15000,
		"SELECT i FROM a JOIN b ON TRUE JOIN c ON TRUE ORDER BY 1":                                           20000,
		"SELECT i FROM a LEFT JOIN b ON FALSE LEFT JOIN c ON FALSE":                                          50,
		"SELECT i FROM a LEFT JOIN b ON i + j < 0 LEFT JOIN c ON i + k < 100":                                500,
	} {
		start := time.Now()
		a, c := query(t, s, statement(t, sql))
		if c != 0 || len(a.Rows) != want {
			t.Errorf("P16.1: %s: class %d, %d rows, want %d", sql, c, len(a.Rows), want)
		}
		if took := time.Since(start); took > 10*time.Second {
			t.Errorf("%s: %s", sql, took)
		}
	}
	if _, c := query(t, s, statement(t, "SELECT 1 / (i * j * k - 49 * 39 * 9) FROM a JOIN b ON TRUE JOIN c ON TRUE")); c != api.ErrZero {
		t.Errorf("P16.1: the last row's error: class %d", c)
	}
}
