package exec

import (
	"slices"

	"consistory/api"
	"consistory/expr"
	"consistory/value"
)

// group: rows that an item has one value of. What isn't grouped is told row by row, each one as a group by itself: over it an expression without an aggregate is what it is on it.
type group [][]api.Value

// groups tells those of rows for which Having is True. It sorts rows.
func (q question) groups(rows [][]api.Value) ([]group, error) {
	var all []group
	switch {
	case !q.isGrouped():
		for n := range rows {
			all = append(all, rows[n:n+1])
		}
	case len(q.x.Group) == 0:
		all = []group{rows}
	default:
		all = alike(rows, q.x.Group)
	}
	if q.x.Having.Kind == 0 {
		return all, nil
	}
	out, err := kept(all, func(g group) (bool, error) {
		v, err := expr.Group(q.x.Having, g)
		return v == api.Value{Kind: api.Bool, Int: api.True}, err
	})
	return out, in("HAVING", err)
}

// isGrouped: whether there is one line of each group, not of each row.
func (q question) isGrouped() bool {
	return len(q.x.Group) > 0 || q.x.Having.Kind != 0 ||
		slices.ContainsFunc(q.items(), hasAggregate) || slices.ContainsFunc(q.orders(), hasAggregate)
}

func hasAggregate(e api.Expr) bool {
	return e.Kind == api.EAgg || slices.ContainsFunc(e.Args, hasAggregate)
}

// alike puts rows together that have the same values in these columns. It sorts them by these.
func alike(rows [][]api.Value, columns []api.Expr) []group {
	compare := func(a, b []api.Value) int {
		for _, c := range columns {
			if side := value.Compare(a[c.At], b[c.At]); side != 0 {
				return side
			}
		}
		return 0
	}
	slices.SortStableFunc(rows, compare)
	var out []group
	for n, row := range rows {
		if n == 0 || compare(rows[n-1], row) != 0 {
			out = append(out, nil)
		}
		last := len(out) - 1
		out[last] = append(out[last], row)
	}
	return out
}
