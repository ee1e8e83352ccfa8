package resolve_test

import (
	"math"
	"slices"
	"strings"

	"consistory/api"
)

// maker makes statements about what is there, each turn of one in slip a wrong one.
type maker struct {
	chance
	s    api.Schema
	slip int
}

func (m maker) slips() bool { return m.chance(m.slip) == 0 }

// some makes a list of least to most elements.
func some[T any](c chance, least, most int, one func() T) []T {
	l := make([]T, least+c(most-least+1))
	for i := range l {
		l[i] = one()
	}
	return l
}

func (c chance) value(kind int) api.Value {
	switch kind {
	case api.Bool:
		return api.Value{Kind: kind, Int: int64(c(2))}
	case api.Int:
		return api.Value{Kind: kind, Int: pick[int64](c, 0, 1, 2, -1, math.MaxInt64, math.MinInt64)}
	case api.Text:
		return api.Value{Kind: kind, Text: pick(c, "", "x", "y", strings.Repeat("x", api.MaxText))}
	}
	return api.Value{}
}

// view: the row that an expression is over, which of its places it may name, whether there may be aggregates.
type view struct {
	row     []place
	may     []int
	grouped bool
}

func openView(row []place) view {
	v := view{row: row}
	for i := range row {
		v.may = append(v.may, i)
	}
	return v
}

// leaf makes a column, if there is one of that kind, or a value.
func (m maker) leaf(kind int, v view) api.Expr {
	if m.slips() {
		return pick(m.chance, col("zz"), col("a"), api.Expr{Kind: api.ECol, Table: pick(m.chance, "t", "u", "zz"), Name: pick(m.chance, "a", "x", "c")})
	}
	var fit []int
	for _, i := range v.may {
		if v.row[i].kind == kind {
			fit = append(fit, i)
		}
	}
	if m.chance(8) == 0 {
		return null()
	}
	if len(fit) == 0 || m.chance(3) == 0 {
		return api.Expr{Kind: api.EValue, Value: m.value(kind)}
	}
	return m.named(v.row, pick(m.chance, fit...))
}

// named makes a column of a place, with its table where it must be there, mostly.
func (m maker) named(row []place, i int) api.Expr {
	e := col(row[i].name)
	twice := slices.ContainsFunc(row, func(p place) bool { return p.name == row[i].name && p.table != row[i].table })
	if m.chance(3) == 0 || twice && !m.slips() {
		e.Table = row[i].table
	}
	return e
}

// expr makes one of that kind, at most so deep.
func (m maker) expr(kind, deep int, v view) api.Expr {
	if m.slips() {
		kind = 1 + m.chance(3)
	}
	if deep == 0 || m.chance(4) == 0 {
		return m.leaf(kind, v)
	}
	if v.grouped && m.chance(3) == 0 || m.chance(4*m.slip) == 0 {
		return m.aggregate(kind, deep-1, view{row: v.row, may: openView(v.row).may, grouped: m.slips()})
	}
	of := func(kind int) api.Expr { return m.expr(kind, deep-1, v) }
	if m.chance(6) == 0 {
		args := some(m.chance, 1, 2, func() api.Expr { return of(api.Bool) })
		var l []api.Expr
		for _, a := range args {
			l = append(l, a, of(kind))
		}
		return node(api.ECase, 0, append(l, some(m.chance, 0, 1, func() api.Expr { return of(kind) })...)...)
	}
	switch kind {
	case api.Int:
		if m.chance(6) == 0 {
			return node(api.EUnary, api.ONeg, of(kind))
		}
		return node(api.EBinary, api.OAdd+m.chance(5), of(kind), of(kind))
	case api.Text:
		return node(api.EBinary, api.OCat, of(kind), of(kind))
	}
	return m.test(of)
}

// test makes one of kind Bool of parts.
func (m maker) test(of func(kind int) api.Expr) api.Expr {
	kind := 1 + m.chance(3)
	switch m.chance(6) {
	case 0:
		return node(api.EUnary, api.ONot, of(api.Bool))
	case 1:
		return node(api.EUnary, api.OIsNull+m.chance(2), of(kind))
	case 2:
		return node(api.EBinary, api.OAnd+m.chance(2), of(api.Bool), of(api.Bool))
	case 3:
		return node(api.EIn, 0, some(m.chance, 2, 4, func() api.Expr { return of(kind) })...)
	}
	return node(api.EBinary, api.OEq+m.chance(6), of(kind), of(kind))
}

func (m maker) aggregate(kind, deep int, v view) api.Expr {
	if kind == api.Int && m.chance(3) == 0 {
		return node(api.EAgg, api.ACount)
	}
	if kind == api.Int && m.chance(2) == 0 {
		return pick(m.chance, node(api.EAgg, api.ACount, m.expr(1+m.chance(3), deep, v)), node(api.EAgg, api.ASum, m.expr(kind, deep, v)))
	}
	return node(api.EAgg, api.AMin+m.chance(2), m.expr(kind, deep, v))
}

func (m maker) table() api.Table {
	if m.slips() {
		return api.Table{Name: "zz", Cols: []api.Column{{Name: "a", Type: api.Int}}}
	}
	return pick(m.chance, m.s.Tables...)
}

// columnsOf tells some of a table's, unlike ones, mostly.
func (m maker) columnsOf(t api.Table) []api.Column {
	l := slices.Clone(t.Cols)
	for i := range l {
		k := i + m.chance(len(l)-i)
		l[i], l[k] = l[k], l[i]
		if m.slips() {
			l[i] = pick(m.chance, api.Column{Name: "zz", Type: api.Int}, l[0])
		}
	}
	return l[:1+m.chance(len(l))]
}

func (m maker) maybe(least int, e func() api.Expr) api.Expr {
	if m.chance(3) < least {
		return api.Expr{}
	}
	return e()
}

func (m maker) stmt() api.Stmt {
	t := m.table()
	row := openView(rowOf(t.Name, t))
	where := func() api.Expr { return m.expr(api.Bool, m.chance(4), row) }
	switch m.chance(6) {
	case 0:
		return m.insert(t)
	case 1:
		x := api.Stmt{Kind: api.SUpdate, Name: t.Name, Where: m.maybe(1, where)}
		for _, c := range m.columnsOf(t) {
			x.Sets = append(x.Sets, api.Set{Name: c.Name, Expr: m.expr(c.Type, m.chance(4), row)})
		}
		return x
	case 2:
		return api.Stmt{Kind: api.SDelete, Name: t.Name, Where: m.maybe(0, where)}
	}
	return m.query()
}

func (m maker) insert(t api.Table) api.Stmt {
	x := api.Stmt{Kind: api.SInsert, Name: t.Name}
	cols := t.Cols
	if m.chance(2) == 0 {
		cols = m.columnsOf(t)
		for _, c := range cols {
			x.Cols = append(x.Cols, c.Name)
		}
	}
	for range 1 + m.chance(3) {
		var row []api.Expr
		for _, c := range cols {
			row = append(row, m.expr(c.Type, m.chance(3), view{}))
		}
		if m.slips() {
			row = append(row, null())
		}
		x.Rows = append(x.Rows, row)
	}
	return x
}

func (m maker) query() api.Stmt {
	x := api.Stmt{Kind: api.SSelect, Distinct: m.chance(3) == 0, Limit: pick[int64](m.chance, -1, 0, 5)}
	var row []place
	for i := range 1 + m.chance(3) {
		t := m.table()
		f := api.Source{Name: t.Name, Alias: string("xyz"[i])}
		if m.chance(4) == 0 {
			f.Alias = pick(m.chance, "", "t", "u", "x")
		}
		called := f.Alias
		if called == "" {
			called = f.Name
		}
		row = append(row, rowOf(called, t)...)
		if i > 0 {
			f.On, f.Left = m.expr(api.Bool, m.chance(3), openView(row)), m.chance(2) == 0
		}
		x.From = append(x.From, f)
	}
	x.Where = m.maybe(2, func() api.Expr { return m.expr(api.Bool, m.chance(4), openView(row)) })
	v := openView(row)
	if m.chance(2) == 0 {
		v = m.group(&x, row)
	}
	m.items(&x, v)
	return x
}

// group makes a query a grouped one.
func (m maker) group(x *api.Stmt, row []place) view {
	v := view{row: row, grouped: true}
	for range m.chance(4) {
		i := m.chance(len(row))
		v.may = append(v.may, i)
		e := m.named(row, i)
		if m.slips() {
			e = m.expr(api.Int, 1, openView(row))
		}
		x.Group = append(x.Group, e)
	}
	x.Having = m.maybe(1, func() api.Expr { return m.expr(api.Bool, m.chance(4), v) })
	return v
}

func (m maker) items(x *api.Stmt, v view) {
	x.Items = some(m.chance, 1, 4, func() api.Item {
		if !v.grouped && m.chance(4) == 0 || m.slips() {
			return api.Item{Star: true}
		}
		return api.Item{Expr: m.expr(1+m.chance(3), m.chance(4), v), Name: pick(m.chance, "", "n")}
	})
	x.Order = some(m.chance, 0, 3, func() api.Order {
		item := pick(m.chance, x.Items...)
		if item.Star || !x.Distinct || m.slips() {
			item.Expr = m.expr(1+m.chance(3), m.chance(3), v)
		}
		return api.Order{Expr: m.otherwise(item.Expr, v.row), Desc: m.chance(2) == 0}
	})
}

// otherwise tells e with columns that are named another way.
func (m maker) otherwise(e api.Expr, row []place) api.Expr {
	e = deepCopy(e)
	for _, s := range spots(&e) {
		one, isExpr := s.v.Addr().Interface().(*api.Expr)
		if !isExpr || one.Kind != api.ECol {
			continue
		}
		for i, p := range row {
			if p.name == one.Name && (one.Table == "" || one.Table == p.table) {
				*one = m.named(row, i)
			}
		}
	}
	return e
}
