package resolve_test

import (
	"errors"
	"slices"

	"consistory/api"
	"consistory/catalog"
	"consistory/tree"
)

// The model says the chapter a second time: all that is wrong of a statement is written down, in the order of the chapter, and the first of it is told. What is wrong hides nothing: a part that errs counts as a NULL for what stands around it.

// model: what is wrong so far.
type model struct{ wrong []api.Class }

func (m *model) must(holds bool, c api.Class) {
	if !holds {
		m.wrong = append(m.wrong, c)
	}
}

// place: a column of a row.
type place struct {
	table, name string
	kind        int
}

// where an expression stands: the row it is over; in a grouped one, which places are grouped by.
type spotOf struct {
	row     []place
	grouped bool
	by      []int
}

// expr tells e; if it errs, its type is 0.
func (m *model) expr(e api.Expr, at spotOf) api.Expr {
	was := len(m.wrong)
	inner := at
	if e.Kind == api.EAgg {
		inner = spotOf{row: at.row}
	}
	var types []int
	out := e
	out.Args = nil
	for _, a := range e.Args {
		told := m.expr(a, inner)
		out.Args = append(out.Args, told)
		types = append(types, told.Type)
	}
	switch e.Kind {
	case api.EValue:
		out.Type = e.Value.Kind
	case api.ECol:
		m.column(&out, at)
	case api.EIn:
		_, right := meet(0, types...)
		m.must(right, api.ErrType)
		out.Type = api.Bool
	case api.ECase:
		m.choice(&out, types)
	case api.EAgg:
		m.must(at.grouped, api.ErrType)
		fallthrough
	default:
		kind, right := meet(wants[e.Op].args, types...)
		m.must(right, api.ErrType)
		out.Type = wants[e.Op].own
		if out.Type < 0 {
			out.Type = kind
		}
	}
	if len(m.wrong) > was {
		out.Type = 0
	}
	return out
}

func (m *model) column(e *api.Expr, at spotOf) {
	var found []int
	for i, p := range at.row {
		if p.name == e.Name && (e.Table == "" || p.table == e.Table) {
			found = append(found, i)
		}
	}
	m.must(len(found) == 1, api.ErrName)
	if len(found) == 1 {
		e.At, e.Type = found[0], at.row[found[0]].kind
		m.must(!at.grouped || slices.Contains(at.by, e.At), api.ErrType)
	}
}

func (m *model) choice(e *api.Expr, types []int) {
	var values []int
	for len(types) > 1 {
		_, right := meet(api.Bool, types[0])
		m.must(right, api.ErrType)
		values = append(values, types[1])
		types = types[2:]
	}
	kind, right := meet(0, append(values, types...)...)
	m.must(right, api.ErrType)
	e.Type = kind
}

// of tells e, which must be of that kind.
func (m *model) of(kind int, e api.Expr, at spotOf) api.Expr {
	if e.Kind == 0 {
		return e
	}
	out := m.expr(e, at)
	m.must(out.Type == 0 || out.Type == kind, api.ErrType)
	return out
}

func rowOf(called string, t api.Table) []place {
	var l []place
	for _, c := range t.Cols {
		l = append(l, place{called, c.Name, c.Type})
	}
	return l
}

// modelStmt tells what Stmt should.
func modelStmt(s api.Schema, x api.Stmt) (api.Stmt, api.Class) {
	if !catalog.Is(s) || !tree.Is(x) {
		return api.Stmt{}, api.ErrForm
	}
	tables := map[string]api.Table{}
	for _, t := range s.Tables {
		tables[t.Name] = t
	}
	m, out := &model{}, deepCopy(x)
	switch x.Kind {
	case api.SInsert:
		m.insert(tables[x.Name], &out)
	case api.SUpdate, api.SDelete:
		m.change(tables[x.Name], &out)
	case api.SSelect:
		m.query(tables, &out)
	default:
		_, err := catalog.Apply(s, x)
		var c api.Class
		m.must(!errors.As(err, &c), c)
	}
	if len(m.wrong) > 0 {
		return api.Stmt{}, m.wrong[0]
	}
	return out, 0
}

func (m *model) insert(t api.Table, x *api.Stmt) {
	m.must(t.Name != "", api.ErrName)
	kinds, seen := map[string]int{}, map[string]int{}
	for _, c := range t.Cols {
		kinds[c.Name] = c.Type
	}
	if len(x.Cols) == 0 {
		for _, c := range t.Cols {
			x.Cols = append(x.Cols, c.Name)
		}
	}
	for _, name := range x.Cols {
		seen[name]++
		m.must(kinds[name] != 0 && seen[name] == 1, api.ErrName)
	}
	for _, row := range x.Rows {
		m.must(len(row) == len(x.Cols), api.ErrType)
	}
	for _, row := range x.Rows {
		for i := range min(len(row), len(x.Cols)) {
			row[i] = m.of(kinds[x.Cols[i]], row[i], spotOf{})
		}
	}
}

func (m *model) change(t api.Table, x *api.Stmt) {
	m.must(t.Name != "", api.ErrName)
	at := spotOf{row: rowOf(x.Name, t)}
	seen := map[string]int{}
	for i, set := range x.Sets {
		kind := 0
		for _, c := range t.Cols {
			if c.Name == set.Name {
				kind = c.Type
			}
		}
		seen[set.Name]++
		m.must(kind != 0 && seen[set.Name] == 1, api.ErrName)
		x.Sets[i].Expr = m.of(kind, set.Expr, at)
	}
	x.Where = m.of(api.Bool, x.Where, at)
}

func (m *model) query(tables map[string]api.Table, x *api.Stmt) {
	var at spotOf
	var upTo []spotOf
	seen := map[string]int{}
	for _, f := range x.From {
		called := f.Name
		if f.Alias != "" {
			called = f.Alias
		}
		seen[called]++
		m.must(tables[f.Name].Name != "" && seen[called] == 1, api.ErrName)
		at.row = append(slices.Clip(at.row), rowOf(called, tables[f.Name])...)
		upTo = append(upTo, at)
	}
	for i := range x.From {
		x.From[i].On = m.of(api.Bool, x.From[i].On, upTo[i])
	}
	x.Where = m.of(api.Bool, x.Where, at)
	over := spotOf{row: at.row, grouped: modelGrouped(*x)}
	for i, e := range x.Group {
		m.must(e.Kind == api.ECol, api.ErrType)
		x.Group[i] = m.expr(e, at)
		over.by = append(over.by, x.Group[i].At)
	}
	x.Having = m.of(api.Bool, x.Having, over)
	m.items(x, over)
	for i, o := range x.Order {
		e := m.expr(o.Expr, over)
		x.Order[i].Expr = e
		m.must(!x.Distinct || slices.ContainsFunc(x.Items, func(i api.Item) bool { return equal(nameless(i.Expr), nameless(e)) }), api.ErrType)
	}
	m.must(len(x.Items) <= 18, api.ErrLimit)
}

// modelGrouped looks for aggregates at all places of a copy that has nothing but items and orders.
func modelGrouped(x api.Stmt) bool {
	part := api.Stmt{Items: x.Items, Order: x.Order}
	for _, s := range spots(&part) {
		if e, isExpr := s.v.Interface().(api.Expr); isExpr && e.Kind == api.EAgg {
			return true
		}
	}
	return len(x.Group) > 0 || x.Having.Kind != 0
}

func (m *model) items(x *api.Stmt, over spotOf) {
	var items []api.Item
	for _, item := range x.Items {
		if !item.Star {
			items = append(items, api.Item{Expr: m.expr(item.Expr, over), Name: item.Name})
			continue
		}
		m.must(!over.grouped, api.ErrType)
		for i, p := range over.row {
			items = append(items, api.Item{Expr: api.Expr{Kind: api.ECol, Table: p.table, Name: p.name, At: i, Type: p.kind}})
		}
	}
	x.Items = items
}

// nameless tells e without its columns' names.
func nameless(e api.Expr) api.Expr {
	e = deepCopy(e)
	for _, s := range spots(&e) {
		if s.v.Type().Name() == "string" && (len(s.path) < 5 || s.path[len(s.path)-5:] != ".Text") {
			s.v.SetString("")
		}
	}
	return e
}

// modelExpr tells what Expr should.
func modelExpr(cols []api.Column, e api.Expr) (api.Expr, api.Class) {
	if len(cols) > 64 || !tree.IsExpr(e) {
		return api.Expr{}, api.ErrForm
	}
	m := &model{}
	out := m.expr(e, spotOf{row: rowOf("", api.Table{Cols: cols})})
	if len(m.wrong) > 0 {
		return api.Expr{}, m.wrong[0]
	}
	return out, 0
}
