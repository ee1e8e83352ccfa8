package expr_test

import (
	"math"
	"reflect"
	"strings"
	"testing"

	"consistory/api"
	"consistory/expr"
	"consistory/parse"
	"consistory/resolve"
	"consistory/tree"
)

// value makes one of that kind, at times a NULL.
func (c chance) value(kind int) api.Value {
	switch kind * min(1, c(8)) {
	case api.Bool:
		return pick(c, no, yes)
	case api.Int:
		return integer(pick[int64](c, 0, 0, 1, 1, 2, 3, -1, -2, 1<<32, math.MaxInt64, math.MaxInt64-1, math.MinInt64, math.MinInt64+1))
	case api.Text:
		return textOf(pick(c, "", "x", "y", "it's", "xy", strings.Repeat("x", api.MaxText-1), strings.Repeat("x", api.MaxText)))
	}
	return null
}

// row makes one of values of the columns' types, at times one that is too short.
func (c chance) row() []api.Value {
	var l []api.Value
	for _, col := range columns {
		l = append(l, c.value(col.Type))
	}
	if c(40) == 0 {
		l = l[:c(len(l))]
	}
	return l
}

func (c chance) rows() [][]api.Value {
	l := make([][]api.Value, pick(c, 0, 1, 1, 2, 3, 4, 20))
	for i := range l {
		l[i] = c.row()
	}
	return l
}

// maker makes expressions; with aggregates, if they may be.
type maker struct {
	chance
	aggregates bool
}

// expr makes one of that type, at most so deep.
func (m maker) expr(kind, deep int) api.Expr {
	of := func(kind int) api.Expr { return m.expr(kind, deep-1) }
	switch {
	case deep == 0 || m.chance(5) == 0:
		if m.chance(2) == 0 {
			return api.Expr{Kind: api.EValue, Value: m.value(kind)}
		}
		return api.Expr{Kind: api.ECol, Name: pick(m.chance, map[int][]string{api.Bool: {"p", "q"}, api.Int: {"i", "j"}, api.Text: {"s", "r"}}[kind]...)}
	case m.aggregates && m.chance(3) == 0:
		return m.aggregate(kind, deep-1)
	case m.chance(6) == 0:
		var args []api.Expr
		for range 1 + m.chance(3) {
			args = append(args, of(api.Bool), of(kind))
		}
		if m.chance(2) == 0 {
			args = append(args, of(kind))
		}
		return node(api.ECase, 0, args...)
	case kind == api.Int && m.chance(5) == 0:
		return node(api.EUnary, api.ONeg, of(kind))
	case kind == api.Int:
		return node(api.EBinary, api.OAdd+m.chance(5), of(kind), of(kind))
	case kind == api.Text:
		return node(api.EBinary, api.OCat, of(kind), of(kind))
	}
	return m.test(of)
}

// test makes one of type Bool of parts.
func (m maker) test(of func(kind int) api.Expr) api.Expr {
	kind := 1 + m.chance(3)
	switch m.chance(6) {
	case 0:
		return node(api.EUnary, api.ONot, of(api.Bool))
	case 1:
		return node(api.EUnary, api.OIsNull+m.chance(2), of(kind))
	case 2, 3:
		return node(api.EBinary, api.OAnd+m.chance(2), of(api.Bool), of(api.Bool))
	case 4:
		args := []api.Expr{of(kind)}
		for range 1 + m.chance(4) {
			args = append(args, of(kind))
		}
		return node(api.EIn, 0, args...)
	}
	return node(api.EBinary, api.OEq+m.chance(6), of(kind), of(kind))
}

func (m maker) aggregate(kind, deep int) api.Expr {
	inside := maker{chance: m.chance}
	if kind == api.Int {
		switch m.chance(4) {
		case 0:
			return node(api.EAgg, api.ACount)
		case 1:
			return node(api.EAgg, api.ACount, inside.expr(1+m.chance(3), deep))
		case 2:
			return node(api.EAgg, api.ASum, inside.expr(kind, deep))
		}
	}
	return node(api.EAgg, api.AMin+m.chance(2), inside.expr(kind, deep))
}

// hold holds all calls against the model.
func hold(t *testing.T, e api.Expr, rows [][]api.Value) (evaluated []string, grouped string) {
	t.Helper()
	show, _ := tree.Expr(tree.Bare(api.Stmt{Where: e}).Where)
	for _, row := range rows {
		got := eval(t, e, row)
		if want := modelEval(e, row); got != want {
			t.Fatalf("P14.1: %s on %v: %s, want %s", show, row, got, want)
		}
		if got, want := truth(t, e, row), modelTruth(e, row); got != want {
			t.Fatalf("P14.2: %s on %v: %s, want %s", show, row, got, want)
		}
		evaluated = append(evaluated, got)
	}
	grouped = group(t, e, rows)
	if want := modelGroup(e, rows); grouped != want {
		t.Fatalf("P14.3: %s on %v: %s, want %s", show, rows, grouped, want)
	}
	return evaluated, grouped
}

// kindOf: what an answer is.
func kindOf(s string) string {
	switch {
	case isClass(s), rank(s) >= 0:
		return s
	case s[0] == '\'':
		return "text"
	}
	return "number"
}

// TestByChance: what resolve tells, on rows of the columns' types, as the model has it.
func TestByChance(t *testing.T) {
	t.Parallel()
	single, over := map[string]int{}, map[string]int{}
	for seed := range int64(60) {
		m := maker{byChance(seed), seed%2 == 0}
		for range 600 {
			e := resolved(t, m.expr(1+m.chance(3), m.chance(6)))
			l, grouped := hold(t, e, m.rows())
			for _, s := range l {
				single[kindOf(s)]++
			}
			over[kindOf(grouped)]++
		}
	}
	for _, kind := range []string{"TRUE", "FALSE", "NULL", "number", "text", zero, overflow, form} {
		if single[kind] < 500 || over[kind] < 100 {
			t.Errorf("too little is tried: %s: %d, %d", kind, single[kind], over[kind])
		}
	}
}

// spoil changes one place of what x points to, so that resolve didn't tell it, mostly.
func (c chance) spoil(x any) {
	v := pick(c, spots(x)...)
	switch v.Kind() {
	case reflect.Int, reflect.Int64:
		v.SetInt(pick(c, 0, 1, -1, v.Int()+1, v.Int()-1, 2, 3, 5, 22, math.MaxInt64, math.MinInt64))
	case reflect.String:
		v.SetString(pick(c, "", "a", "\x00", strings.Repeat("m", api.MaxText+1)))
	case reflect.Slice:
		if n := v.Len(); n > 0 && c(2) == 0 {
			v.Set(v.Slice(0, n-1))
		} else if n > 0 {
			v.Set(reflect.Append(v, v.Index(c(n))))
		} else {
			v.Set(reflect.Append(v, reflect.New(v.Type().Elem()).Elem()))
		}
	case reflect.Struct:
		v.SetZero()
	}
}

// TestWrongOnesAnswer: whatever is handed in: an error of the chapter, or none, and nothing beside an error.
func TestWrongOnesAnswer(t *testing.T) {
	t.Parallel()
	tried := map[string]int{}
	m := maker{byChance(1), true}
	for range 20000 {
		e, rows := resolved(t, m.expr(1+m.chance(3), m.chance(5))), m.rows()
		for range 1 + m.chance(4) {
			m.spoil(&e)
			m.spoil(&rows)
		}
		for _, row := range rows {
			tried[eval(t, e, row)]++
			truth(t, e, row)
		}
		group(t, e, rows)
	}
	if tried[form] < 1000 {
		t.Errorf("too little is tried: %d", tried[form])
	}
}

// FuzzEval: texts as expressions, on rows by chance.
func FuzzEval(f *testing.F) {
	for _, s := range []string{
		"i + 1 = j", "s || r", "- (i % j)", "FALSE AND 1 / 0 = 1", "1 IN (NULL, 1 / 0)", "NOT (p OR q) IS NULL", "CASE WHEN p THEN i WHEN q THEN j ELSE 0 END",
		"COUNT(*) + SUM(i / j)", "MIN(s) || MAX(r)", "i BETWEEN 1 AND 5", "CASE WHEN COUNT(i) > 1 THEN SUM(j) END", "'it''s' <= s",
	} {
		f.Add(s, int64(len(s)))
	}
	f.Fuzz(func(t *testing.T, s string, seed int64) {
		if strings.Count(strings.ToUpper(s), "BETWEEN") > 4 { // they double what is reckoned
			return
		}
		x, err := parse.Parse("SELECT " + s + " FROM t GROUP BY i, j, s, r, p, q")
		if err != nil {
			return
		}
		x, err = resolve.Stmt(schema(), x)
		if err != nil {
			return
		}
		rows := byChance(seed).rows()
		for _, item := range x.Items {
			hold(t, item.Expr, rows)
		}
		if got, _ := expr.Truth(x.Having, nil); x.Having.Kind == 0 && !got {
			t.Error("P14.2: without a Kind")
		}
	})
}
