package plan_test

import (
	"cmp"
	"math"
	"reflect"
	"slices"
	"strings"
	"testing"

	"consistory/api"
	"consistory/catalog"
	"consistory/parse"
	"consistory/plan"
	"consistory/tree"
)

// schema makes one of tables t, u and v, whose columns' names are all unlike.
func (c chance) schema() api.Schema {
	var s api.Schema
	for i, name := range []string{"t", "u", "v"} {
		t := api.Table{Name: name}
		for n := range 1 + c(6) {
			t.Cols = append(t.Cols, api.Column{Name: name + string(rune('a'+n)), Type: pick(c, api.Int, api.Int, api.Int, api.Text, api.Bool), NotNull: c(2) == 0})
		}
		for n := range c(5) {
			k := api.Key{Name: "k" + string(rune('a'+i)) + string(rune('a'+n)), Unique: c(2) == 0}
			for range 1 + c(3) {
				if n := c(len(t.Cols)); !slices.Contains(k.Cols, n) {
					k.Cols = append(k.Cols, n)
				}
			}
			t.Keys = append(t.Keys, k)
		}
		s.Tables = append(s.Tables, t)
	}
	return s
}

// place: a column that may be named.
type place struct {
	table string
	api.Column
}

// maker makes statements about what is there.
type maker struct {
	chance
	s api.Schema
}

func (m maker) column(row []place, kind int) (api.Expr, bool) {
	var fit []place
	for _, p := range row {
		if p.Type == kind {
			fit = append(fit, p)
		}
	}
	if len(fit) == 0 {
		return api.Expr{}, false
	}
	p := pick(m.chance, fit...)
	return api.Expr{Kind: api.ECol, Table: p.table, Name: p.Name}, true
}

func (m maker) value(kind int) api.Expr {
	if m.chance(12) == 0 {
		return constant(null)
	}
	return constant(pick(m.chance, edges(kind)...))
}

// expr makes one of that type, at most so deep.
func (m maker) expr(row []place, kind, deep int) api.Expr {
	of := func(kind int) api.Expr { return m.expr(row, kind, deep-1) }
	switch {
	case deep == 0 || m.chance(4) == 0:
		if e, ok := m.column(row, kind); ok && m.chance(2) == 0 {
			return e
		}
		return m.value(kind)
	case m.chance(8) == 0:
		return node(api.ECase, 0, of(api.Bool), of(kind), of(kind))
	case kind == api.Int && m.chance(6) == 0:
		return node(api.EUnary, api.ONeg, of(kind))
	case kind == api.Int:
		return node(api.EBinary, api.OAdd+m.chance(5), of(kind), of(kind))
	case kind == api.Text:
		return node(api.EBinary, api.OCat, of(kind), of(kind))
	}
	kind = 1 + m.chance(3)
	switch m.chance(7) {
	case 0:
		return node(api.EUnary, api.ONot, of(api.Bool))
	case 1:
		return node(api.EUnary, api.OIsNull+m.chance(2), of(kind))
	case 2, 3:
		return node(api.EBinary, api.OAnd+m.chance(2), of(api.Bool), of(api.Bool))
	case 4:
		return node(api.EIn, 0, of(kind), of(kind), of(kind))
	}
	return node(api.EBinary, api.OEq+m.chance(6), of(kind), of(kind))
}

// test makes a comparison of a column with a value, either way round, mostly of the first ones of the row.
func (m maker) test(row []place) api.Expr {
	p := row[min(m.chance(len(row)), m.chance(len(row)))]
	c, v := api.Expr{Kind: api.ECol, Table: p.table, Name: p.Name}, m.value(p.Type)
	if m.chance(6) == 0 {
		v = m.expr(nil, p.Type, 1)
	}
	if m.chance(3) == 0 {
		c, v = v, c
	}
	return node(api.EBinary, api.OEq+m.chance(6), c, v)
}

// where makes parts with ANDs between, bracketed by chance, mostly to the left.
func (m maker) where(row []place) api.Expr {
	var l []api.Expr
	for range 1 + m.chance(4) {
		if m.chance(3) > 0 {
			l = append(l, m.test(row))
		} else {
			l = append(l, m.expr(row, api.Bool, 1+m.chance(3)))
		}
	}
	for len(l) > 1 {
		i := min(m.chance(len(l)-1), m.chance(3))
		l = slices.Replace(l, i, i+2, node(api.EBinary, api.OAnd, l[i], l[i+1]))
	}
	return l[0]
}

func (m maker) stmt() api.Stmt {
	t := pick(m.chance, m.s.Tables...)
	switch row := placesOf(t.Name, t); m.chance(4) {
	case 0:
		c := pick(m.chance, t.Cols...)
		return api.Stmt{Kind: api.SUpdate, Name: t.Name, Sets: []api.Set{{Name: c.Name, Expr: m.expr(row, c.Type, 2)}}, Where: m.where(row)}
	case 1:
		return api.Stmt{Kind: api.SDelete, Name: t.Name, Where: m.where(row)}
	}
	return m.query()
}

func (m maker) query() api.Stmt {
	x := api.Stmt{Kind: api.SSelect, Items: []api.Item{{Expr: node(api.EAgg, api.ACount)}}, Limit: -1}
	var row []place
	for i := range pick(m.chance, 1, 1, 2, 3) {
		t := pick(m.chance, m.s.Tables...)
		f := api.Source{Name: t.Name, Alias: pick(m.chance, "", "x", "y", "z")}
		if slices.ContainsFunc(row, func(p place) bool { return p.table == cmp.Or(f.Alias, f.Name) }) {
			f.Alias = string(rune('n' + i))
		}
		row = append(row, placesOf(cmp.Or(f.Alias, f.Name), t)...)
		if i > 0 {
			f.Left, f.On = m.chance(2) == 0, m.test(row)
			if m.chance(3) == 0 {
				f.On = m.expr(row, api.Bool, 2)
			}
		}
		x.From = append(x.From, f)
	}
	if m.chance(20) > 0 {
		x.Where = m.where(row)
	}
	return x
}

func placesOf(called string, t api.Table) []place {
	var l []place
	for _, c := range t.Cols {
		l = append(l, place{called, c})
	}
	return l
}

// TestByChance: P15.1, P15.2, P15.3 and P15.5, of schemas, statements and rows by chance; P15.4 with them.
func TestByChance(t *testing.T) {
	t.Parallel()
	tried := map[string]int{}
	for seed := range int64(40) {
		c := byChance(seed)
		for range 60 {
			m := maker{c, c.schema()}
			if !catalog.Is(m.s) {
				t.Fatalf("no schema: %+v", m.s)
			}
			x := m.stmt()
			l := hold(t, c, m.s, x, 25)
			best(t, m.s, x, pick(c, 0, 1, 2, 9, 60, -5, math.MaxInt))
			for _, w := range l[1:] {
				tried[strings.Trim(show(w), "0123456789-'x")]++
				tried["by key"]++
			}
			if len(x.From) > 1 && len(l) > 1 {
				tried["of a join"]++
			}
			if len(l) == 1 {
				tried["all alone"]++
			}
		}
	}
	for _, kind := range []string{"by key", "of a join", "all alone"} {
		if tried[kind] < 100 {
			t.Errorf("too little is tried: %s: %d", kind, tried[kind])
		}
	}
	if len(tried) < 15 {
		t.Errorf("too few kinds of ways: %v", tried)
	}
}

// spoil changes one place of what x points to, so that it may not be any more, or may be all the same.
func (c chance) spoil(x any) {
	v := pick(c, spots(x)...)
	switch v.Kind() {
	case reflect.Int, reflect.Int64:
		v.SetInt(pick(c, 0, 1, -1, v.Int()+1, v.Int()-1, 2, 3, 5, math.MaxInt64, math.MinInt64))
	case reflect.Bool:
		v.SetBool(!v.Bool())
	case reflect.String:
		v.SetString(pick(c, "", "ta", "ub", "t", "x", "A", "select", strings.Repeat("m", api.MaxName+1)))
	case reflect.Slice:
		if n := v.Len(); n > 0 && c(3) == 0 {
			v.Set(v.Slice(0, n-1))
		} else if n > 0 {
			v.Set(reflect.Append(v, v.Index(c(n))))
		} else {
			v.Set(reflect.Append(v, reflect.New(v.Type().Elem()).Elem()))
		}
	case reflect.Struct:
		v.SetZero()
	}
}

// TestWrongOnesByChance: whatever is handed in, an error of resolve or ErrForm, or ways as they may be.
func TestWrongOnesByChance(t *testing.T) {
	t.Parallel()
	tried := map[api.Class]int{}
	c := byChance(5)
	for range 20000 {
		m := maker{c, c.schema()}
		x := m.stmt()
		for range 1 + c(2) {
			c.spoil(&x)
		}
		if c(4) == 0 {
			c.spoil(&m.s)
		}
		_, got := all(t, m.s, x)
		tried[got]++
		w, err := plan.Best(m.s, x, c(3)-1)
		if class(t, err) != got || err != nil && !equal(w, api.Way{}) {
			t.Fatalf("P15.4: %v, %v, want class %d", w, err, got)
		}
	}
	for _, c := range []api.Class{0, api.ErrForm, api.ErrName, api.ErrType} {
		if tried[c] < 50 {
			t.Errorf("too little is tried: class %d: %d", c, tried[c])
		}
	}
}

// FuzzAll: texts as statements.
func FuzzAll(f *testing.F) {
	for _, sql := range samples {
		f.Add(sql, int64(len(sql)))
	}
	f.Fuzz(func(t *testing.T, sql string, seed int64) {
		if strings.Count(strings.ToUpper(sql), "BETWEEN") > 4 { // they double what is looked at
			return
		}
		x, err := parse.Parse(sql)
		if err != nil {
			return
		}
		s := schema(t)
		if _, c := all(t, s, x); c == 0 {
			hold(t, byChance(seed), s, x, 12)
			best(t, s, x, int(seed))
		}
		if !tree.Is(x) {
			t.Errorf("rule 3: %s: no statement any more", sql)
		}
	})
}
