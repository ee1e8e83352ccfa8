package parse_test

import (
	"math"
	"strings"
	"testing"

	"consistory/api"
	"consistory/tree"
)

func (c chance) name() string {
	return pick(c, []string{"a", "b", "t", "_", "a_1", "selects", strings.Repeat("n", api.MaxName)})
}

func (c chance) noneOrName() string { return pick(c, []string{"", c.name()}) }

func (c chance) value() api.Value {
	return pick(c, []api.Value{
		{}, {Kind: api.Bool}, {Kind: api.Bool, Int: 1},
		{Kind: api.Int, Int: pick(c, []int64{0, 1, -1, 42, math.MaxInt64, math.MinInt64})},
		{Kind: api.Text, Text: pick(c, []string{"", "'", "it''s", "-- no", "(", "\n\xff", strings.Repeat("'", api.MaxText)})},
	})
}

// expr makes one that may be, of at most that depth.
func (c chance) expr(deep int) api.Expr {
	args := func(n int) []api.Expr { return some(c, n, n, func() api.Expr { return c.expr(deep - 1) }) }
	switch kind := c(10); {
	case deep == 0 || kind < 2:
		return pick(c, []api.Expr{{Kind: api.EValue, Value: c.value()}, {Kind: api.ECol, Table: c.noneOrName(), Name: c.name()}})
	case kind == api.EIn:
		return isIn(args(2 + c(10))...)
	case kind == api.ECase:
		return caseOf(args(2 + c(4))...)
	case kind == api.EAgg:
		return pick(c, []api.Expr{agg(api.ACount), agg(api.ACount+c(4), args(1)...)})
	case kind%2 == 0:
		return unary(api.ONeg+c(4), args(1)[0])
	default:
		return node(api.EBinary, api.OEq+c(14), args(2)...)
	}
}

// some makes a list of least to most elements.
func some[T any](c chance, least, most int, one func() T) []T {
	l := make([]T, least+c(most-least+1))
	for i := range l {
		l[i] = one()
	}
	return l
}

// made makes a statement that may be.
func (c chance) made(deep int) api.Stmt {
	expr := func() api.Expr { return c.expr(deep) }
	maybe := func() api.Expr { return pick(c, []api.Expr{{}, c.expr(deep)}) }
	names := func() []string { return some(c, 1, 10, c.name) }
	keys := some(c, 0, 10, func() api.Key { return api.Key{Unique: true, Primary: c(2) == 0} })
	x := pick(c, []api.Stmt{
		{Kind: api.SCreate, KeyCols: some(c, len(keys), len(keys), names), Table: api.Table{Name: c.name(), Keys: keys, Cols: some(c, 1, 10, func() api.Column {
			return api.Column{Name: c.name(), Type: 1 + c(3), NotNull: c(2) == 0}
		})}},
		{Kind: api.SIndex, Index: c.name(), Name: c.name(), Unique: c(2) == 0, Cols: names()},
		{Kind: api.SDrop, Name: c.name()},
		{Kind: api.SUnindex, Index: c.name()},
		{Kind: api.SInsert, Name: c.name(), Cols: some(c, 0, 10, c.name), Rows: some(c, 1, 5, func() []api.Expr { return some(c, 1, 5, expr) })},
		{Kind: api.SUpdate, Name: c.name(), Where: maybe(), Sets: some(c, 1, 5, func() api.Set { return api.Set{Name: c.name(), Expr: expr()} })},
		{Kind: api.SDelete, Name: c.name(), Where: maybe()},
		{Kind: api.SSelect, Distinct: c(2) == 0, Where: maybe(), Having: maybe(), Limit: pick(c, []int64{-1, 0, math.MaxInt64}),
			Items: some(c, 1, 5, func() api.Item { return pick(c, []api.Item{{Star: true}, {Expr: expr(), Name: c.noneOrName()}}) }),
			From: some(c, 1, api.MaxFrom, func() api.Source {
				return api.Source{Name: c.name(), Alias: c.noneOrName(), Left: c(2) == 0, On: expr()}
			}),
			Group: some(c, 0, 4, expr), Order: some(c, 0, 4, func() api.Order { return api.Order{Expr: expr(), Desc: c(2) == 0} })},
	})
	if x.Kind == api.SSelect {
		x.From[0].Left, x.From[0].On = false, api.Expr{}
	}
	return x
}

// TestPrintedIsRead: of every statement that may be, what is printed is read as that one.
func TestPrintedIsRead(t *testing.T) {
	t.Parallel()
	c := byChance(14)
	read := 0
	for range 6000 {
		x := c.made(c(4))
		if !tree.Is(x) {
			t.Fatalf("may not be: %+v", x)
		}
		if s, _ := tree.Print(x); len(s) <= api.MaxSQL {
			read++
		}
		readAgain(t, x)
	}
	if read < 4000 {
		t.Errorf("only %d were short enough", read)
	}
}
