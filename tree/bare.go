package tree

import (
	"slices"
	"strings"

	"consistory/api"
)

// bareStmt copies x without what resolve told.
func bareStmt(x api.Stmt) api.Stmt {
	return api.Stmt{
		Kind:     x.Kind,
		Table:    copyOfTable(x.Table),
		KeyCols:  copied(x.KeyCols, copyOfNames),
		Name:     strings.Clone(x.Name),
		Index:    strings.Clone(x.Index),
		Unique:   x.Unique,
		Cols:     copyOfNames(x.Cols),
		Rows:     copied(x.Rows, bareExprs),
		Sets:     copied(x.Sets, bareSet),
		Where:    bareExpr(x.Where),
		Distinct: x.Distinct,
		Items:    copied(x.Items, bareItem),
		From:     copied(x.From, bareSource),
		Group:    bareExprs(x.Group),
		Having:   bareExpr(x.Having),
		Order:    copied(x.Order, bareOrder),
		Limit:    x.Limit,
	}
}

func bareExpr(e api.Expr) api.Expr {
	v := api.Value{Kind: e.Value.Kind, Int: e.Value.Int, Text: strings.Clone(e.Value.Text)}
	return api.Expr{Kind: e.Kind, Op: e.Op, Value: v, Table: strings.Clone(e.Table), Name: strings.Clone(e.Name), Args: bareExprs(e.Args)}
}

func bareExprs(l []api.Expr) []api.Expr { return copied(l, bareExpr) }

func bareSet(s api.Set) api.Set {
	return api.Set{Name: strings.Clone(s.Name), Expr: bareExpr(s.Expr)}
}

func bareItem(i api.Item) api.Item {
	return api.Item{Star: i.Star, Expr: bareExpr(i.Expr), Name: strings.Clone(i.Name)}
}

func bareSource(s api.Source) api.Source {
	return api.Source{Name: strings.Clone(s.Name), Alias: strings.Clone(s.Alias), Left: s.Left, On: bareExpr(s.On)}
}

func bareOrder(o api.Order) api.Order {
	return api.Order{Expr: bareExpr(o.Expr), Desc: o.Desc}
}

func copyOfTable(t api.Table) api.Table {
	return api.Table{Name: strings.Clone(t.Name), Cols: copied(t.Cols, copyOfColumn), Keys: copied(t.Keys, copyOfKey)}
}

func copyOfColumn(c api.Column) api.Column {
	return api.Column{Name: strings.Clone(c.Name), Type: c.Type, NotNull: c.NotNull}
}

func copyOfKey(k api.Key) api.Key {
	return api.Key{Name: strings.Clone(k.Name), Cols: append([]int(nil), k.Cols...), Unique: k.Unique, Primary: k.Primary}
}

func copyOfNames(l []string) []string { return copied(l, strings.Clone) }

// copied makes a list anew, each of its elements by one.
func copied[T any](l []T, one func(T) T) []T {
	if len(l) == 0 {
		return nil
	}
	out := make([]T, len(l))
	for i, e := range l {
		out[i] = one(e)
	}
	return out
}

// alikeStmt: whether all is alike, what resolve told, too.
func alikeStmt(a, b api.Stmt) bool {
	return a.Kind == b.Kind && a.Name == b.Name && a.Index == b.Index &&
		a.Unique == b.Unique && a.Distinct == b.Distinct && a.Limit == b.Limit &&
		alikeTable(a.Table, b.Table) &&
		slices.EqualFunc(a.KeyCols, b.KeyCols, slices.Equal[[]string]) &&
		slices.Equal(a.Cols, b.Cols) &&
		slices.EqualFunc(a.Rows, b.Rows, alikeExprs) &&
		slices.EqualFunc(a.Sets, b.Sets, alikeSet) &&
		alikeExpr(a.Where, b.Where) &&
		slices.EqualFunc(a.Items, b.Items, alikeItem) &&
		slices.EqualFunc(a.From, b.From, alikeSource) &&
		alikeExprs(a.Group, b.Group) &&
		alikeExpr(a.Having, b.Having) &&
		slices.EqualFunc(a.Order, b.Order, alikeOrder)
}

func alikeTable(a, b api.Table) bool {
	return a.Name == b.Name && slices.Equal(a.Cols, b.Cols) && slices.EqualFunc(a.Keys, b.Keys, alikeKey)
}

func alikeKey(a, b api.Key) bool {
	return a.Name == b.Name && a.Unique == b.Unique && a.Primary == b.Primary && slices.Equal(a.Cols, b.Cols)
}

func alikeSet(a, b api.Set) bool { return a.Name == b.Name && alikeExpr(a.Expr, b.Expr) }

func alikeItem(a, b api.Item) bool {
	return a.Star == b.Star && a.Name == b.Name && alikeExpr(a.Expr, b.Expr)
}

func alikeSource(a, b api.Source) bool {
	return a.Name == b.Name && a.Alias == b.Alias && a.Left == b.Left && alikeExpr(a.On, b.On)
}

func alikeOrder(a, b api.Order) bool { return a.Desc == b.Desc && alikeExpr(a.Expr, b.Expr) }

func alikeExpr(a, b api.Expr) bool {
	return a.Kind == b.Kind && a.Op == b.Op && a.Value == b.Value &&
		a.Table == b.Table && a.Name == b.Name && a.At == b.At && a.Type == b.Type &&
		alikeExprs(a.Args, b.Args)
}

func alikeExprs(a, b []api.Expr) bool { return slices.EqualFunc(a, b, alikeExpr) }
