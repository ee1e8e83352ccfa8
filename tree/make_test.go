package tree_test

import (
	"math"
	"reflect"
	"strings"

	"consistory/api"
)

// name tells one, seldom a long one.
func (c chance) name() string {
	return [...]string{"a", "b", "t", "u", "_", "a_1", "selects", strings.Repeat("n", api.MaxName)}[c(8)]
}

func (c chance) noneOrName() string {
	if c(2) == 0 {
		return ""
	}
	return c.name()
}

func (c chance) value() api.Value {
	switch c(4) {
	case 0:
		return api.Value{}
	case 1:
		return api.Value{Kind: api.Bool, Int: int64(c(2))}
	case 2:
		return api.Value{Kind: api.Int, Int: [...]int64{0, 1, -1, 42, -7, math.MaxInt64, math.MinInt64}[c(7)]}
	}
	return api.Value{Kind: api.Text, Text: [...]string{"", "a", "'", "''", "it's", "-- no", "(", " ", "\n", "é\xff", strings.Repeat("'", api.MaxText)}[c(11)]}
}

// expr makes one of at most that depth that may be.
func (c chance) expr(deep int) api.Expr {
	kind := c(9) + 1
	if deep == 0 || kind > api.EAgg {
		kind = c(2) + 1
	}
	args := func(n int) []api.Expr {
		l := make([]api.Expr, n)
		for i := range l {
			l[i] = c.expr(deep - 1)
		}
		return l
	}
	switch kind {
	case api.ECol:
		return api.Expr{Kind: kind, Table: c.noneOrName(), Name: c.name()}
	case api.EUnary:
		return node(kind, api.ONeg+c(4), args(1)...)
	case api.EBinary:
		return node(kind, api.OEq+c(14), args(2)...)
	case api.EIn:
		return node(kind, 0, args(2+c(3))...)
	case api.ECase:
		return node(kind, 0, args(2+c(4))...)
	case api.EAgg:
		op := api.ACount + c(4)
		if op == api.ACount && c(2) == 0 {
			return node(kind, op)
		}
		return node(kind, op, args(1)...)
	}
	return api.Expr{Kind: api.EValue, Value: c.value()}
}

func (c chance) maybe(deep int) api.Expr {
	if c(2) == 0 {
		return api.Expr{}
	}
	return c.expr(deep)
}

// some makes a list of least to most elements.
func some[T any](c chance, least, most int, one func() T) []T {
	l := make([]T, least+c(most-least+1))
	for i := range l {
		l[i] = one()
	}
	return l
}

// stmt makes one that may be, with expressions of at most that depth.
func (c chance) stmt(deep int) api.Stmt {
	expr := func() api.Expr { return c.expr(deep) }
	x := api.Stmt{Kind: c(api.SSelect) + 1}
	switch x.Kind {
	case api.SCreate:
		x.Table.Name = c.name()
		x.Table.Cols = some(c, 1, 3, func() api.Column { return api.Column{Name: c.name(), Type: 1 + c(3), NotNull: c(2) == 0} })
		x.Table.Keys = some(c, 0, 2, func() api.Key { return api.Key{Unique: true, Primary: c(2) == 0} })
		n := len(x.Table.Keys)
		x.KeyCols = some(c, n, n, func() []string { return some(c, 1, 3, c.name) })
	case api.SIndex:
		x.Index, x.Name, x.Unique, x.Cols = c.name(), c.name(), c(2) == 0, some(c, 1, 3, c.name)
	case api.SDrop:
		x.Name = c.name()
	case api.SUnindex:
		x.Index = c.name()
	case api.SInsert:
		x.Name, x.Cols = c.name(), some(c, 0, 3, c.name)
		x.Rows = some(c, 1, 3, func() []api.Expr { return some(c, 1, 3, expr) })
	case api.SUpdate:
		x.Name, x.Where = c.name(), c.maybe(deep)
		x.Sets = some(c, 1, 3, func() api.Set { return api.Set{Name: c.name(), Expr: c.expr(deep)} })
	case api.SDelete:
		x.Name, x.Where = c.name(), c.maybe(deep)
	case api.SSelect:
		c.query(&x, deep)
	}
	return x
}

func (c chance) query(x *api.Stmt, deep int) {
	x.Distinct, x.Where, x.Having = c(2) == 0, c.maybe(deep), c.maybe(deep)
	x.Limit = [...]int64{-1, 0, 1, math.MaxInt64}[c(4)]
	x.Items = some(c, 1, 3, func() api.Item {
		if c(4) == 0 {
			return api.Item{Star: true}
		}
		return api.Item{Expr: c.expr(deep), Name: c.noneOrName()}
	})
	x.From = some(c, 1, 3, func() api.Source {
		return api.Source{Name: c.name(), Alias: c.noneOrName(), Left: c(2) == 0, On: c.expr(deep)}
	})
	x.From[0].Left, x.From[0].On = false, api.Expr{}
	x.Group = some(c, 0, 2, func() api.Expr { return c.expr(deep) })
	x.Order = some(c, 0, 2, func() api.Order { return api.Order{Expr: c.expr(deep), Desc: c(2) == 0} })
}

// spoil changes one place of x, so that it may not be any more, or may be all the same.
func (c chance) spoil(x *api.Stmt) {
	all := spots(x)
	v := all[c(len(all))].v
	switch v.Kind() {
	case reflect.Int, reflect.Int64:
		v.SetInt([...]int64{0, 1, -1, v.Int() + 1, v.Int() - 1, -2, 3, 23}[c(8)])
	case reflect.Bool:
		v.SetBool(!v.Bool())
	case reflect.String:
		v.SetString([...]string{"", "b", "A", "select", "9", strings.Repeat("m", api.MaxName+1), strings.Repeat("m", api.MaxText+1), "\x00"}[c(8)])
	case reflect.Slice:
		if n := v.Len(); n > 0 && c(3) == 0 {
			v.Set(v.Slice(0, n-1))
		} else if n > 0 {
			for k := c(12); k >= 0; k-- {
				v.Set(reflect.Append(v, v.Index(c(n))))
			}
		} else {
			v.Set(reflect.Append(v, reflect.New(v.Type().Elem()).Elem()))
		}
	case reflect.Struct:
		v.SetZero()
	}
}
