package exec_test

import (
	"cmp"
	"math"
	"reflect"
	"slices"
	"strings"
	"testing"

	"consistory/api"
	"consistory/catalog"
	"consistory/parse"
	"consistory/plan"
	"consistory/table"
	"consistory/tree"
)

// store makes one of tables t, u and v, whose columns' names are all unlike, with rows; few, mostly.
func (c chance) store(t *testing.T) *table.Store {
	t.Helper()
	var s api.Schema
	for i, name := range []string{"t", "u", "v"} {
		t := api.Table{Name: name}
		for n := range 1 + c(5) {
			t.Cols = append(t.Cols, api.Column{Name: name + string(rune('a'+n)), Type: pick(c, api.Int, api.Int, api.Int, api.Text, api.Bool), NotNull: c(2) == 0})
		}
		for n := range c(4) {
			k := api.Key{Name: "k" + string(rune('a'+i)) + string(rune('a'+n)), Unique: c(5) == 0}
			for range 1 + c(3) {
				if n := c(len(t.Cols)); !slices.Contains(k.Cols, n) {
					k.Cols = append(k.Cols, n)
				}
			}
			t.Keys = append(t.Keys, k)
		}
		s.Tables = append(s.Tables, t)
	}
	store, err := table.Of(s, api.Data{Rows: make([][]api.Row, 3), Next: []uint64{1, 1, 1}})
	if err != nil {
		t.Fatal(err)
	}
	for i := range s.Tables {
		c.fill(store, i, pick(c, 0, 1, 2, 5, 5, 5, 8, 8, 30))
	}
	return store
}

// place: a column that may be named.
type place struct {
	table string
	api.Column
}

func (p place) expr() api.Expr { return api.Expr{Kind: api.ECol, Table: p.table, Name: p.Name} }

// maker makes questions about what is there.
type maker struct {
	chance
	s api.Schema
}

// view: what may be named; and within an aggregate, if one may stand there.
type view struct {
	row, inside []place
	aggregates  bool
}

func (m maker) column(row []place, kind int) (api.Expr, bool) {
	var fit []place
	for _, p := range row {
		if p.Type == kind {
			fit = append(fit, p)
		}
	}
	if len(fit) == 0 {
		return api.Expr{}, false
	}
	return pick(m.chance, fit...).expr(), true
}

func (m maker) value(kind int) api.Expr {
	if m.chance(12) == 0 {
		return constant(null)
	}
	if kind == api.Int && m.chance(2) == 0 {
		return constant(integer(int64(m.chance(3))))
	}
	return constant(pick(m.chance, edges(kind)...))
}

// expr makes one of that type, at most so deep.
func (m maker) expr(v view, kind, deep int) api.Expr {
	of := func(kind int) api.Expr { return m.expr(v, kind, deep-1) }
	switch {
	case v.aggregates && m.chance(3) == 0:
		return m.aggregate(v, kind, deep)
	case deep == 0 || m.chance(3) == 0:
		if e, ok := m.column(v.row, kind); ok && m.chance(5) > 0 {
			return e
		}
		return m.value(kind)
	case m.chance(8) == 0:
		return node(api.ECase, 0, of(api.Bool), of(kind), of(kind))
	case kind == api.Int && m.chance(6) == 0:
		return node(api.EUnary, api.ONeg, of(kind))
	case kind == api.Int:
		return node(api.EBinary, api.OAdd+m.chance(5), of(kind), of(kind))
	case kind == api.Text:
		return node(api.EBinary, api.OCat, of(kind), of(kind))
	}
	kind = 1 + m.chance(3)
	switch m.chance(7) {
	case 0:
		return node(api.EUnary, api.ONot, of(api.Bool))
	case 1:
		return node(api.EUnary, api.OIsNull+m.chance(2), of(kind))
	case 2, 3:
		return node(api.EBinary, api.OAnd+m.chance(2), of(api.Bool), of(api.Bool))
	case 4:
		return node(api.EIn, 0, of(kind), of(kind), of(kind))
	}
	return node(api.EBinary, api.OEq+m.chance(6), of(kind), of(kind))
}

func (m maker) aggregate(v view, kind, deep int) api.Expr {
	over := view{row: v.inside}
	if kind == api.Int {
		switch m.chance(4) {
		case 0:
			return node(api.EAgg, api.ACount)
		case 1:
			return node(api.EAgg, api.ACount, m.expr(over, 1+m.chance(3), min(deep, 1)))
		case 2:
			return node(api.EAgg, api.ASum, m.expr(over, kind, min(deep, 1)))
		}
	}
	return node(api.EAgg, api.AMin+m.chance(2), m.expr(over, kind, min(deep, 1)))
}

// test makes a comparison of a column with a value, mostly of the first ones of the row, or with another column.
func (m maker) test(row []place) api.Expr {
	p := row[min(m.chance(len(row)), m.chance(len(row)))]
	c, v := p.expr(), m.value(p.Type)
	if m.chance(3) == 0 {
		v, _ = m.column(row, p.Type)
	}
	if m.chance(3) == 0 {
		c, v = v, c
	}
	return node(api.EBinary, api.OEq+m.chance(6), c, v)
}

// where makes parts with ANDs between, mostly to the left.
func (m maker) where(row []place) api.Expr {
	var l []api.Expr
	for range 1 + m.chance(3) {
		if m.chance(3) > 0 {
			l = append(l, m.test(row))
		} else {
			l = append(l, m.expr(view{row: row}, api.Bool, 1+m.chance(2)))
		}
	}
	for len(l) > 1 {
		i := min(m.chance(len(l)-1), m.chance(3))
		l = slices.Replace(l, i, i+2, node(api.EBinary, api.OAnd, l[i], l[i+1]))
	}
	return l[0]
}

// query makes a SELECT that resolve takes, mostly.
func (m maker) query() api.Stmt {
	x := api.Stmt{Kind: api.SSelect, Limit: pick[int64](m.chance, -1, -1, -1, 0, 1, 2, 3, 9, math.MaxInt64), Distinct: m.chance(4) == 0}
	row := m.sources(&x)
	if m.chance(3) > 0 {
		x.Where = m.where(row)
	}
	v := view{row: row, inside: row}
	switch m.chance(4) {
	case 0:
		v.aggregates, v.row = true, nil
	case 1:
		v.aggregates, v.row = true, nil
		for range 1 + m.chance(3) {
			p := pick(m.chance, row...)
			v.row = append(v.row, p)
			x.Group = append(x.Group, p.expr())
		}
	}
	if v.aggregates && m.chance(3) == 0 {
		x.Having = m.expr(v, api.Bool, 2)
	}
	for range 1 + m.chance(3) {
		x.Items = append(x.Items, api.Item{Expr: m.expr(v, 1+m.chance(3), m.chance(3)), Name: pick(m.chance, "", "", "n")})
	}
	if !v.aggregates && m.chance(6) == 0 {
		x.Items[0] = api.Item{Star: true}
	}
	for range pick(m.chance, 0, 1, 2) {
		e := m.expr(v, 1+m.chance(3), m.chance(2))
		if x.Distinct {
			e = pick(m.chance, x.Items...).Expr
		}
		if e.Kind != 0 {
			x.Order = append(x.Order, api.Order{Expr: e, Desc: m.chance(2) == 0})
		}
	}
	return x
}

// sources makes x's, and tells what may be named of them.
func (m maker) sources(x *api.Stmt) []place {
	var row []place
	for i := range pick(m.chance, 1, 1, 2, 3) {
		t := pick(m.chance, m.s.Tables...)
		f := api.Source{Name: t.Name, Alias: pick(m.chance, "", "x", "y", "z")}
		if slices.ContainsFunc(row, func(p place) bool { return p.table == cmp.Or(f.Alias, f.Name) }) {
			f.Alias = string(rune('n' + i))
		}
		for _, c := range t.Cols {
			row = append(row, place{cmp.Or(f.Alias, f.Name), c})
		}
		if i > 0 {
			f.Left, f.On = m.chance(2) == 0, m.test(row)
			if m.chance(3) == 0 {
				f.On = m.expr(view{row: row}, api.Bool, 2)
			}
		}
		x.From = append(x.From, f)
	}
	return row
}

// way makes one to a table's rows that may be, mostly.
func (m maker) way(t api.Table) api.Way {
	w := api.Way{Key: m.chance(len(t.Keys)+1) - 1}
	if w.Key < 0 {
		return w
	}
	for _, c := range t.Keys[w.Key].Cols {
		v := func() api.Value {
			if m.chance(5) == 0 {
				return null
			}
			return pick(m.chance, edges(t.Cols[c].Type)...)
		}
		if m.chance(2) == 0 {
			w.Eq = append(w.Eq, v())
			continue
		}
		if w.HasLo = m.chance(2) == 0; w.HasLo {
			w.Lo = v()
		}
		if w.HasHi = m.chance(2) == 0; w.HasHi {
			w.Hi = v()
		}
		break
	}
	return w
}

// kinds tells what of a question and its answer is counted.
func kinds(x api.Stmt, a api.Answer, c api.Class, ways int) []string {
	l := []string{map[api.Class]string{0: "answered", api.ErrOverflow: "overflow", api.ErrZero: "zero", api.ErrLimit: "too much"}[c]}
	if c != 0 {
		return append(l, "refused")
	}
	for kind, is := range map[string]bool{
		"with rows": len(a.Rows) > 0, "with many rows": len(a.Rows) > 5, "distinct": x.Distinct && len(a.Rows) > 1, "in order": len(x.Order) > 0 && len(a.Rows) > 1,
		"cut": x.Limit > 0 && int64(len(a.Rows)) == x.Limit, "groups": len(x.Group) > 0 && len(a.Rows) > 1, "having": x.Having.Kind != 0 && len(a.Rows) > 0,
		"of two": len(x.From) == 2 && len(a.Rows) > 0, "of three": len(x.From) == 3 && len(a.Rows) > 0, "by keys": ways > 0, "by keys, with rows": ways > 0 && len(a.Rows) > 0,
	} {
		if is {
			l = append(l, kind)
		}
	}
	return l
}

// TestByChance: P16.1 to P16.4, of stores and questions by chance.
func TestByChance(t *testing.T) {
	t.Parallel()
	tried := map[string]int{}
	for seed := range int64(60) {
		c := byChance(seed)
		for range 80 {
			store := c.store(t)
			m := maker{c, store.Schema()}
			x := m.query()
			a, class, ways := hold(t, store, x)
			for _, kind := range kinds(x, a, class, ways) {
				tried[kind]++
			}
			first := m.s.Tables[catalog.Find(m.s, x.From[0].Name)]
			if holdBy(t, store, x, m.way(first)) == 0 {
				tried["by any way"]++
			}
		}
	}
	for _, kind := range []string{
		"answered", "overflow", "zero", "with rows", "with many rows", "distinct", "in order", "cut", "groups", "having", "of two", "of three", "by keys", "by keys, with rows", "by any way",
	} {
		if tried[kind] < 60 {
			t.Errorf("too little is tried: %s: %d", kind, tried[kind])
		}
	}
	if t.Failed() || testing.Verbose() {
		t.Log(tried)
	}
}

// spoil changes one place of what x points to, so that it may not be any more, or may be all the same.
func (c chance) spoil(x any) {
	v := pick(c, spots(x)...)
	switch v.Kind() {
	case reflect.Int, reflect.Int64:
		v.SetInt(pick(c, 0, 1, -1, v.Int()+1, v.Int()-1, 2, 3, 5, math.MaxInt64, math.MinInt64))
	case reflect.Bool:
		v.SetBool(!v.Bool())
	case reflect.String:
		v.SetString(pick(c, "", "ta", "ub", "t", "x", "A", "select", strings.Repeat("m", api.MaxName+1)))
	case reflect.Slice:
		if n := v.Len(); n > 0 && c(3) == 0 {
			v.Set(v.Slice(0, n-1))
		} else if n > 0 {
			v.Set(reflect.Append(v, v.Index(c(n))))
		} else {
			v.Set(reflect.Append(v, reflect.New(v.Type().Elem()).Elem()))
		}
	case reflect.Struct:
		v.SetZero()
	}
}

// TestWrongOnesByChance: whatever is handed in, what the model tells.
func TestWrongOnesByChance(t *testing.T) {
	t.Parallel()
	tried := map[api.Class]int{}
	c := byChance(5)
	for range 300 {
		store := c.store(t)
		m, was := maker{c, store.Schema()}, store.Data()
		for range 40 {
			x := m.query()
			w := m.way(pick(c, m.s.Tables...))
			for range 1 + c(2) {
				c.spoil(&x)
			}
			if c(3) == 0 {
				c.spoil(&w)
			}
			_, class, _ := hold(t, store, x)
			tried[class]++
			if holdBy(t, store, x, w) != class {
				tried[-1]++
			}
		}
		if !equal(store.Data(), was) {
			t.Fatal("rule 4: the store has changed")
		}
	}
	for _, c := range []api.Class{-1, 0, api.ErrForm, api.ErrName, api.ErrType} {
		if tried[c] < 50 {
			t.Errorf("too little is tried: class %d: %d", c, tried[c])
		}
	}
}

// FuzzQuery: texts as questions.
func FuzzQuery(f *testing.F) {
	for _, sql := range samples {
		f.Add(sql, int64(len(sql)))
	}
	f.Fuzz(func(t *testing.T, sql string, seed int64) {
		if strings.Count(strings.ToUpper(sql), "BETWEEN") > 4 { // they double what is looked at
			return
		}
		x, err := parse.Parse(sql)
		if err != nil {
			return
		}
		store := keyed(t, byChance(seed))
		was := store.Data()
		hold(t, store, x)
		if l, err := plan.All(store.Schema(), x); err == nil && x.Kind == api.SSelect {
			holdBy(t, store, x, l[len(l)-1])
		}
		if !tree.Is(x) || !equal(store.Data(), was) {
			t.Errorf("rule 3: %s: it has changed", sql)
		}
	})
}
