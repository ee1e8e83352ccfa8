package resolve_test

import (
	"math"
	"reflect"
	"strings"
	"testing"

	"consistory/api"
	"consistory/parse"
	"consistory/resolve"
	"consistory/tree"
)

// check holds Stmt against the model, and tells what it answered.
func check(t *testing.T, s api.Schema, x api.Stmt) (api.Stmt, api.Class) {
	t.Helper()
	out, c := stmt(t, s, x)
	told, want := modelStmt(s, x)
	if c != want || !equal(out, told) {
		sql, _ := tree.Print(x)
		t.Fatalf("P13.2: %s (%+v): class %d, %+v, want class %d, %+v", sql, x, c, out, want, told)
	}
	return out, c
}

// spoil changes one place of what x points to, so that it may not be any more, or may be all the same.
func (c chance) spoil(x any) {
	v := pick(c, spots(x)...).v
	switch v.Kind() {
	case reflect.Int, reflect.Int64:
		v.SetInt(pick(c, 0, 1, -1, v.Int()+1, v.Int()-1, 2, 3, 5, math.MaxInt64, math.MinInt64))
	case reflect.Bool:
		v.SetBool(!v.Bool())
	case reflect.String:
		v.SetString(pick(c, "", "a", "b", "t", "x", "A", "select", "9", strings.Repeat("m", api.MaxName), strings.Repeat("m", api.MaxName+1)))
	case reflect.Slice:
		if n := v.Len(); n > 0 && c(3) == 0 {
			v.Set(v.Slice(0, n-1))
		} else if n > 0 {
			for k := c(3); k >= 0; k-- {
				v.Set(reflect.Append(v, v.Index(c(n))))
			}
		} else {
			v.Set(reflect.Append(v, reflect.New(v.Type().Elem()).Elem()))
		}
	case reflect.Struct:
		v.SetZero()
	}
}

// TestByChance: statements that are right, mostly, and wrong ones, as the model has them.
func TestByChance(t *testing.T) {
	t.Parallel()
	s := schema(t)
	tried := map[[2]int]int{} // by the statement's kind, and the class that is told
	for seed := range int64(60) {
		m := maker{byChance(seed), s, pick(byChance(seed), 20, 60, 400)}
		for range 150 {
			x := m.stmt()
			if !tree.Is(x) {
				t.Fatalf("may not be: %+v", x)
			}
			_, c := check(t, s, x)
			tried[[2]int{x.Kind, int(c)}]++
			wrong := deepCopy(x)
			m.spoil(&wrong)
			_, c = check(t, s, wrong)
			tried[[2]int{wrong.Kind, int(c)}]++
			other := deepCopy(s)
			m.spoil(&other)
			check(t, other, x)
		}
	}
	for _, kind := range []int{api.SInsert, api.SUpdate, api.SDelete, api.SSelect} {
		for _, c := range []api.Class{0, api.ErrName, api.ErrType, api.ErrForm} {
			if tried[[2]int{kind, int(c)}] < 100 {
				t.Errorf("too little is tried: %d, class %d: %d", kind, c, tried[[2]int{kind, int(c)}])
			}
		}
	}
	if tried[[2]int{api.SSelect, int(api.ErrLimit)}] < 10 {
		t.Errorf("too little is tried: %v", tried)
	}
}

// TestExprByChance: expressions over columns, as the model has them.
func TestExprByChance(t *testing.T) {
	t.Parallel()
	tried := map[api.Class]int{}
	m := maker{byChance(7), schema(t), 25}
	for range 20000 {
		l := some(m.chance, 0, 6, func() api.Column {
			return api.Column{Name: pick(m.chance, "a", "b", "c", "d", "e", "f", "g", "h", "x"), Type: 1 + m.chance(3)}
		})
		e := m.expr(1+m.chance(3), m.chance(5), openView(rowOf("", api.Table{Cols: l})))
		if m.chance(4) == 0 {
			m.spoil(&e)
		}
		out, c := expr(t, l, e)
		tried[c]++
		told, want := modelExpr(l, e)
		if c != want || !equal(out, told) {
			t.Fatalf("P13.1: %+v over %v: class %d, %+v, want class %d, %+v", e, l, c, out, want, told)
		}
	}
	for _, c := range []api.Class{0, api.ErrName, api.ErrType, api.ErrForm} {
		if tried[c] < 500 {
			t.Errorf("too little is tried: class %d: %d", c, tried[c])
		}
	}
}

// FuzzStmt: texts as statements.
func FuzzStmt(f *testing.F) {
	for _, sql := range samplesOfAll {
		f.Add(sql)
	}
	f.Fuzz(func(t *testing.T, sql string) {
		if strings.Count(strings.ToUpper(sql), "BETWEEN") > 4 { // they double what is told
			return
		}
		x, err := parse.Parse(sql)
		if err != nil {
			return
		}
		s := schema(t)
		if out, c := check(t, s, x); c == 0 {
			reckonAll(t, s, out, byChance(int64(len(sql))))
		}
		if again, err := resolve.Stmt(s, x); err == nil && !reflect.DeepEqual(tree.Bare(again).Where, tree.Bare(x).Where) {
			t.Errorf("P13.2: %s: another WHERE", sql)
		}
	})
}
