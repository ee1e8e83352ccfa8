package change

import (
	"slices"
	"strconv"

	"consistory/api"
	"consistory/expr"
	"consistory/plan"
	"consistory/table"
)

// job: a statement about the rows of one table, as it was asked and as resolve told it.
type job struct {
	store       *table.Store
	asked, told api.Stmt
	table       int
	cols        []api.Column
}

// outcome: what becomes of a table's rows, all at once.
type outcome struct {
	ups  []api.Row
	gone []uint64
	made [][]api.Value
}

// write does an INSERT, an UPDATE or a DELETE, and tells how many rows it is about.
func write(t *table.Store, asked, told api.Stmt) (int, error) {
	l := t.Schema().Tables
	n := slices.IndexFunc(l, func(t api.Table) bool { return t.Name == told.Name })
	out, err := job{t, asked, told, n, l[n].Cols}.outcome()
	if err != nil {
		return 0, err
	}
	if err := t.Write(n, out.ups, out.gone, out.made); err != nil {
		return 0, in("write", err)
	}
	return len(out.ups) + len(out.gone) + len(out.made), nil
}

// outcome tells what is to become of the rows. An UPDATE's are found as a DELETE's are; but where nothing is set, they are gone.
func (j job) outcome() (outcome, error) {
	var columns []int
	switch j.told.Kind {
	case api.SInsert:
		made, err := j.made()
		return outcome{made: made}, in("VALUES", err)
	case api.SUpdate:
		for _, s := range j.told.Sets {
			columns = append(columns, j.column(s.Name))
		}
		fallthrough
	default:
		rows, err := j.found()
		if err != nil {
			return outcome{}, in("WHERE", err)
		}
		if len(columns) == 0 {
			return outcome{gone: ids(rows)}, nil
		}
		ups, err := j.set(rows, columns)
		return outcome{ups: ups}, in("SET", err)
	}
}

// column tells the number of the column of that name, which resolve has found.
func (j job) column(name string) int {
	return slices.IndexFunc(j.cols, func(c api.Column) bool { return c.Name == name })
}

// made tells the rows of an INSERT; what isn't named is Null.
func (j job) made() ([][]api.Value, error) {
	var columns []int
	for _, name := range j.told.Cols {
		columns = append(columns, j.column(name))
	}
	var out [][]api.Value
	err := worstOf(j.told.Rows, func(n int, l []api.Expr) error {
		vals, err := j.reckoned(l, columns, nil)
		out = append(out, with(make([]api.Value, len(j.cols)), columns, vals))
		return in("row "+strconv.Itoa(n+1), err)
	})
	return out, err
}

// found tells the rows for which Where is True. It looks only at those by a safe way: on the others it isn't True, nor does it err.
func (j job) found() ([]api.Row, error) {
	var rows, out []api.Row
	w, err := plan.Best(j.store.Schema(), j.asked, j.store.Count(j.table))
	if err == nil {
		rows, err = j.store.Rows(j.table, w)
	}
	wrong := worstOf(rows, func(_ int, r api.Row) error {
		ok, err := expr.Truth(j.told.Where, r.Vals)
		if ok {
			out = append(out, r)
		}
		return inRow(r, err)
	})
	return out, expr.Worse(err, wrong)
}

// set tells rows with what the Sets make of these columns, each Set reckoned on the row as it was.
func (j job) set(rows []api.Row, columns []int) ([]api.Row, error) {
	var l []api.Expr
	for _, s := range j.told.Sets {
		l = append(l, s.Expr)
	}
	var out []api.Row
	err := worstOf(rows, func(_ int, r api.Row) error {
		vals, err := j.reckoned(l, columns, r.Vals)
		out = append(out, api.Row{Id: r.Id, Vals: with(r.Vals, columns, vals)})
		return inRow(r, err)
	})
	return out, err
}

// reckoned tells what each of l, which are for these columns, is on a row; or the worst error.
func (j job) reckoned(l []api.Expr, columns []int, row []api.Value) ([]api.Value, error) {
	out := make([]api.Value, len(l))
	err := worstOf(l, func(n int, e api.Expr) (err error) {
		out[n], err = expr.Eval(e, row)
		return in(j.cols[columns[n]].Name, err)
	})
	return out, err
}

// with tells row with these values in these columns.
func with(row []api.Value, columns []int, vals []api.Value) []api.Value {
	out := slices.Clone(row)
	for i, n := range columns {
		out[n] = vals[i]
	}
	return out
}

func ids(rows []api.Row) []uint64 {
	var out []uint64
	for _, r := range rows {
		out = append(out, r.Id)
	}
	return out
}

func inRow(r api.Row, err error) error {
	return in("row "+strconv.FormatUint(r.Id, 10), err)
}
