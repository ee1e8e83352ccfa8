package resolve

import (
	"cmp"
	"errors"
	"slices"
	"strings"

	"consistory/api"
	"consistory/catalog"
)

// mostItems: once each Star is one of each column.
const mostItems = 18

// query tells a SELECT clause by clause. That there are too many items is told behind all that is wrong of its order.
func query(s api.Schema, x *api.Stmt) error {
	scopes, err := sources(s, x.From)
	if err != nil {
		return in("FROM", err)
	}
	all := scopes[len(scopes)-1]
	if err := rowsOf(all, scopes, x); err != nil {
		return err
	}
	if isGrouped(x) {
		all.grouped, all.group = true, x.Group
	}
	if err := all.condition(&x.Having); err != nil {
		return in("HAVING", err)
	}
	var tooMany error
	x.Items, tooMany = all.items(x.Items)
	if tooMany != nil && !errors.Is(tooMany, api.ErrLimit) {
		return in("items", tooMany)
	}
	if err := all.order(x); err != nil {
		return in("ORDER BY", err)
	}
	return in("items", tooMany)
}

// sources tells for each one what may be named once it is joined.
func sources(s api.Schema, from []api.Source) ([]scope, error) {
	var scopes []scope
	var cols []api.Expr
	for _, source := range from {
		called := cmp.Or(source.Alias, source.Name)
		n := catalog.Find(s, source.Name)
		if n < 0 {
			return nil, of(source.Name, api.ErrName)
		}
		if slices.ContainsFunc(cols, func(c api.Expr) bool { return c.Table == called }) {
			return nil, of(called, api.ErrName)
		}
		cols = columns(cols, called, s.Tables[n].Cols)
		scopes = append(scopes, scope{cols: cols})
	}
	return scopes, nil
}

// rowsOf tells which rows there are, and what makes groups of them.
func rowsOf(all scope, scopes []scope, x *api.Stmt) error {
	for i := range x.From {
		if err := scopes[i].condition(&x.From[i].On); err != nil {
			return in("JOIN", err)
		}
	}
	if err := all.condition(&x.Where); err != nil {
		return in("WHERE", err)
	}
	for i := range x.Group {
		if x.Group[i].Kind != api.ECol {
			return in("GROUP BY", api.ErrType)
		}
		if err := all.tell(&x.Group[i]); err != nil {
			return in("GROUP BY", err)
		}
	}
	return nil
}

func isGrouped(x *api.Stmt) bool {
	return len(x.Group) > 0 || x.Having.Kind != 0 ||
		slices.ContainsFunc(x.Items, func(i api.Item) bool { return hasAggregate(i.Expr) }) ||
		slices.ContainsFunc(x.Order, func(o api.Order) bool { return hasAggregate(o.Expr) })
}

// items tells all that l stands for, also beside an ErrLimit: what is ordered by is held against them, however many they are.
func (s scope) items(l []api.Item) ([]api.Item, error) {
	var out []api.Item
	for _, item := range l {
		switch {
		case item.Star && s.grouped:
			return nil, of("*", api.ErrType)
		case item.Star:
			out = append(out, s.star()...)
			continue
		}
		if err := s.tell(&item.Expr); err != nil {
			return nil, err
		}
		out = append(out, item)
	}
	if len(out) > mostItems {
		return out, api.ErrLimit
	}
	return out, nil
}

// star tells an item of each column. Its name is copied: it is a schema's.
func (s scope) star() []api.Item {
	var l []api.Item
	for _, c := range s.cols {
		c.Name = strings.Clone(c.Name)
		l = append(l, api.Item{Expr: c})
	}
	return l
}

// order: what is left of rows that are alike can be ordered by nothing but what is told of them.
func (s scope) order(x *api.Stmt) error {
	for i := range x.Order {
		e := &x.Order[i].Expr
		if err := s.tell(e); err != nil {
			return err
		}
		if x.Distinct && !slices.ContainsFunc(x.Items, func(i api.Item) bool { return alike(i.Expr, *e) }) {
			return api.ErrType
		}
	}
	return nil
}
