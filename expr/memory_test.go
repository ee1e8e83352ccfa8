package expr_test

import (
	"math"
	"reflect"
	"slices"
	"strings"
	"testing"
	"unsafe"

	"consistory/api"
	"consistory/expr"
)

// texts that are expressions of all kinds, some of which err.
var kinds = []string{
	"i", "s", "'abc'", "1", "i + 2 * j", "s || 'y'", "- i", "NOT p", "s IS NULL", "i IN (1, 2, i)", "s IN ('a', r, s)", "p AND q OR i = 6", "1 / 0", "i / (i - 6)",
	"CASE WHEN i > 5 THEN s ELSE 'other' END", "CASE WHEN FALSE THEN 1 END", "COUNT(*)", "COUNT(s)", "SUM(i)", "MIN(s)", "MAX(s)", "MIN('abc')", "MAX(i / (i - 6))",
	"CASE WHEN COUNT(*) > 1 THEN MAX(s) ELSE s END",
}

// roomy tells x with lists that have room behind them, and something in it.
func roomy[T any](x T) T {
	x = deepCopy(x)
	for _, v := range slices.Backward(spots(&x)) { // a list is made anew behind what is in it
		if v.Kind() == reflect.Slice && v.Len() > 0 {
			n := v.Len()
			l := reflect.MakeSlice(v.Type(), n+2, n+2)
			reflect.Copy(l, v)
			l.Index(n).Set(v.Index(0))
			l.Index(n + 1).Set(v.Index(n - 1))
			v.Set(l.Slice(0, n))
		}
	}
	return deepCopy(x)
}

// allOf tells x with the room behind its lists as elements, however deep.
func allOf[T any](x T) T {
	x = deepCopy(x)
	var open func(v reflect.Value)
	open = func(v reflect.Value) {
		switch v.Kind() {
		case reflect.Slice:
			v.SetLen(v.Cap())
			for i := range v.Len() {
				open(v.Index(i))
			}
		case reflect.Struct:
			for i := range v.NumField() {
				open(v.Field(i))
			}
		}
	}
	open(reflect.ValueOf(&x).Elem())
	return x
}

func group3() [][]api.Value {
	return [][]api.Value{row(), {integer(7), integer(1), textOf("ab"), textOf("c"), no, yes}, {null, null, textOf("yz"), null, null, null}}
}

func TestArgumentsStayAsTheyAre(t *testing.T) {
	for _, s := range kinds {
		e, rows := roomy(read(t, s)), roomy(group3())
		was, before := allOf(e), allOf(rows)
		eval(t, e, rows[0])
		truth(t, e, rows[1])
		group(t, e, rows)
		if !reflect.DeepEqual(allOf(e), was) || !reflect.DeepEqual(allOf(rows), before) {
			t.Errorf("rule 3: %s: an argument has changed", s)
		}
	}
}

// TestRoomBehindCountsForNothing: nor does whether a list without anything is nil.
func TestRoomBehindCountsForNothing(t *testing.T) {
	for _, s := range kinds {
		e, rows := read(t, s), group3()
		if a, b := eval(t, e, rows[0]), eval(t, roomy(e), roomy(rows[0])); a != b {
			t.Errorf("rule 6: %s: %s, %s", s, a, b)
		}
		if a, b := group(t, e, rows), group(t, roomy(e), roomy(rows)); a != b {
			t.Errorf("rule 6: %s: %s, %s", s, a, b)
		}
		if a, b := eval(t, e, nil), eval(t, e, row()[:0]); a != b {
			t.Errorf("rule 2: %s: %s, %s", s, a, b)
		}
		if a, b := group(t, e, nil), group(t, e, rows[:0]); a != b {
			t.Errorf("rule 2: %s: %s, %s", s, a, b)
		}
		for _, v := range spots(&e) {
			if v.Kind() == reflect.Slice && v.Len() == 0 {
				v.Set(reflect.MakeSlice(v.Type(), 0, 2))
			}
		}
		if a, b := group(t, e, rows), group(t, read(t, s), rows); a != b {
			t.Errorf("rule 2: %s: %s, %s", s, a, b)
		}
	}
	if got := eval(t, at(3), row()[:2]); got != form {
		t.Errorf("rule 6: what is behind a row's end: %s", got)
	}
}

// TestAnsweredTextsAreNew: not the row's, not the expression's.
func TestAnsweredTextsAreNew(t *testing.T) {
	tried := 0
	for _, s := range kinds {
		e, rows := read(t, s), group3()
		handed := map[*byte]int{}
		for _, x := range []any{&e, &rows} {
			for _, v := range spots(x) {
				if v.Kind() == reflect.String && v.Len() > 0 {
					handed[unsafe.StringData(v.String())]++
				}
			}
		}
		a, _ := expr.Eval(e, rows[0])
		b, _ := expr.Eval(e, rows[0])
		c, _ := expr.Group(e, rows)
		for _, v := range []api.Value{a, b, c} {
			if v.Text == "" {
				continue
			}
			tried++
			if handed[unsafe.StringData(v.Text)]++; handed[unsafe.StringData(v.Text)] > 1 {
				t.Errorf("rule 3: %s: %q is not a new text", s, v.Text)
			}
		}
	}
	if tried < 10 {
		t.Errorf("too little is tried: %d", tried)
	}
}

// nested puts an expression of type Int under n operators, by turns; those that look at one of two leave out what is wrong.
func nested(n int, inside api.Expr) api.Expr {
	one, broken := constant(integer(1)), api.Expr{Kind: 9}
	for i := range n {
		switch i % 6 {
		case 0:
			inside = node(api.EBinary, api.OAdd, one, inside)
		case 1:
			inside = node(api.EIn, 0, inside, one)
		case 2:
			inside = node(api.EBinary, api.OAnd, inside, broken)
		case 3:
			inside = node(api.EUnary, api.ONot, inside)
		case 4:
			inside = node(api.ECase, 0, inside, constant(integer(3)), broken)
		default:
			inside = node(api.EUnary, api.ONeg, inside)
		}
	}
	return inside
}

// TestDeep: parts nested as deep as the document's bound.
func TestDeep(t *testing.T) {
	const deep = (1<<16 - 10) / 6 * 6
	for inside, want := range map[int64]string{5: "-3", math.MaxInt64: overflow} {
		e := nested(deep, constant(integer(inside)))
		if got := eval(t, e, nil); got != want {
			t.Errorf("rule 8: %s, want %s", got, want)
		}
		if got := group(t, node(api.EAgg, api.ASum, e), make([][]api.Value, 1)); got != want {
			t.Errorf("rule 8: %s, want %s", got, want)
		}
	}
	if got := group(t, nested(deep, node(api.EAgg, api.ACount)), make([][]api.Value, 7)); got != "-3" {
		t.Errorf("rule 8: %s", got)
	}
	if got := eval(t, nested(deep, at(0)), nil); got != form {
		t.Errorf("rule 8: %s", got)
	}
}

// TestManyRows: more than a table holds.
func TestManyRows(t *testing.T) {
	long := many(200000, []api.Value{integer(math.MaxInt64), integer(1), textOf(strings.Repeat("a", api.MaxText))})
	for s, want := range map[string]string{"COUNT(*)": "200000", "COUNT(i)": "200000", "SUM(i)": overflow, "SUM(j)": "200000", "SUM(i / 1000000)": "1844674407370800000", "MAX(s)": "'" + strings.Repeat("a", api.MaxText) + "'"} {
		if got := group(t, read(t, s), long); got != want {
			t.Errorf("P14.3: %s: %s, want %s", s, got, want)
		}
	}
}
