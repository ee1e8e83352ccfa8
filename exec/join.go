package exec

import (
	"slices"

	"consistory/api"
	"consistory/expr"
)

// everyRow: the Key of a way to all rows.
const everyRow = -1

// joined tells the rows of all sources together for which Where is True.
func (q question) joined() ([][]api.Value, error) {
	lists, err := q.lists()
	if err != nil {
		return nil, err
	}
	if q.pairs() > api.MaxPairs {
		return nil, in("FROM", api.ErrLimit)
	}
	rows := lists[0]
	for n := 1; n < len(lists); n++ {
		f := q.x.From[n]
		none := make([]api.Value, q.sources[n].width)
		if rows, err = join(rows, lists[n], f, none); err != nil {
			return nil, in("JOIN", in(f.Name, err))
		}
	}
	rows, err = kept(rows, func(row []api.Value) (bool, error) { return expr.Truth(q.x.Where, row) })
	return rows, in("WHERE", err)
}

// lists tells the rows of each source: of the first one those by the question's way, of the others all.
func (q question) lists() ([][][]api.Value, error) {
	var out [][][]api.Value
	w := q.way
	for _, s := range q.sources {
		l, err := q.store.Rows(s.table, w)
		if err != nil {
			return nil, err
		}
		var rows [][]api.Value
		for _, r := range l {
			rows = append(rows, r.Vals)
		}
		out = append(out, rows)
		w = api.Way{Key: everyRow}
	}
	return out, nil
}

// pairs tells how many rows there would be, if all rows of all sources were put to one another, whatever the way.
func (q question) pairs() int {
	out := 1
	for _, s := range q.sources {
		out *= q.store.Count(s.table)
	}
	return out
}

// join puts each row to those of source f that fit it; of a Left one none's values to a row that none fits.
func join(rows, others [][]api.Value, f api.Source, none []api.Value) ([][]api.Value, error) {
	var out [][]api.Value
	err := worstOf(rows, func(row []api.Value) error {
		var wide [][]api.Value
		for _, other := range others {
			wide = append(wide, slices.Concat(row, other))
		}
		fit, err := kept(wide, func(l []api.Value) (bool, error) { return expr.Truth(f.On, l) })
		if f.Left && len(fit) == 0 {
			fit = append(fit, slices.Concat(row, none))
		}
		out = append(out, fit...)
		return err
	})
	if err != nil {
		return nil, err
	}
	return out, nil
}
