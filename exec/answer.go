package exec

import (
	"cmp"
	"slices"
	"strconv"

	"consistory/api"
	"consistory/expr"
	"consistory/value"
)

// line: a row of an answer, and the values that it stands by.
type line struct{ vals, keys []api.Value }

// answer tells what the question means.
func (q question) answer() (api.Answer, error) {
	rows, err := q.joined()
	if err != nil {
		return api.Answer{}, err
	}
	groups, err := q.groups(rows)
	if err != nil {
		return api.Answer{}, err
	}
	lines, err := q.lines(groups)
	if err != nil {
		return api.Answer{}, err
	}
	return api.Answer{Cols: columnsOf(q.x.Items), Rows: q.chosen(lines)}, nil
}

// items tells their expressions.
func (q question) items() []api.Expr {
	var out []api.Expr
	for _, i := range q.x.Items {
		out = append(out, i.Expr)
	}
	return out
}

// orders tells the expressions that lines stand by.
func (q question) orders() []api.Expr {
	var out []api.Expr
	for _, o := range q.x.Order {
		out = append(out, o.Expr)
	}
	return out
}

// columnsOf tells what items are called. But for a column's an expression has no name.
func columnsOf(items []api.Item) []string {
	var out []string
	for n, i := range items {
		out = append(out, cmp.Or(i.Name, i.Expr.Name, "col"+strconv.Itoa(n+1)))
	}
	return out
}

// lines tells one of each group, all items and orders of which are reckoned, however few lines are answered.
func (q question) lines(groups []group) ([]line, error) {
	items, orders := q.items(), q.orders()
	var out []line
	err := worstOf(groups, func(g group) error {
		vals, wrong := reckoned(items, g)
		keys, worse := reckoned(orders, g)
		out = append(out, line{vals, keys})
		return expr.Worse(in("items", wrong), in("ORDER BY", worse))
	})
	if err != nil {
		return nil, err
	}
	return out, nil
}

// reckoned tells what each of l is over a group.
func reckoned(l []api.Expr, g group) ([]api.Value, error) {
	var out []api.Value
	err := worstOf(l, func(e api.Expr) error {
		v, err := expr.Group(e, g)
		out = append(out, v)
		return err
	})
	return out, err
}

// chosen tells those lines that are answered, in their order. Lines that are alike stand by the same values.
func (q question) chosen(lines []line) [][]api.Value {
	if q.x.Distinct {
		compare := func(a, b line) int { return value.Rows(a.vals, b.vals) }
		slices.SortFunc(lines, compare)
		lines = slices.CompactFunc(lines, func(a, b line) bool { return compare(a, b) == 0 })
	}
	slices.SortStableFunc(lines, q.compare)
	if most := q.x.Limit; most >= 0 && most < int64(len(lines)) {
		lines = lines[:most]
	}
	var out [][]api.Value
	for _, l := range lines {
		out = append(out, l.vals)
	}
	return out
}

// compare tells how two lines stand to one another.
func (q question) compare(a, b line) int {
	for n, o := range q.x.Order {
		side := value.Compare(a.keys[n], b.keys[n])
		if o.Desc {
			side = -side
		}
		if side != 0 {
			return side
		}
	}
	return 0
}
