package change_test

import (
	"errors"
	"slices"
	"testing"

	"consistory/api"
	"consistory/catalog"
	"consistory/exec"
	"consistory/expr"
	"consistory/resolve"
	"consistory/table"
)

// A second saying of the chapter: all rows one by one, whatever keys there are.

// least: of the errors of a step the least class; 0 of none.
type least api.Class

func (l *least) see(err error) {
	var c api.Class
	if errors.As(err, &c) && (*l == 0 || c < api.Class(*l)) {
		*l = least(c)
	}
}

func classOf(err error) api.Class {
	var l least
	l.see(err)
	return api.Class(l)
}

// model tells what x is answered where things are so, and how they are then; of what is refused the class alone.
func model(was state, x api.Stmt) (api.Answer, state, api.Class) {
	told, err := resolve.Stmt(was.Schema, x)
	if err != nil {
		return api.Answer{}, was, classOf(err)
	}
	then := deepCopy(was)
	i := catalog.Find(was.Schema, x.Name)
	var n int
	var c api.Class
	switch x.Kind {
	case api.SSelect:
		store, _ := table.Of(was.Schema, was.Data)
		a, err := exec.Query(store, x)
		return a, was, classOf(err)
	case api.SInsert:
		n, c = then.insert(i, told)
	case api.SUpdate:
		n, c = then.update(i, told)
	case api.SDelete:
		n, c = then.delete(i, told)
	default:
		then.define(x)
	}
	if c == 0 {
		c = then.fault()
	}
	if c != 0 {
		return api.Answer{}, was, c
	}
	return api.Answer{Count: n}, then, 0
}

// fault tells the class of what is no state of a store: ErrLimit of too many rows, else ErrConstraint.
func (x *state) fault() api.Class {
	for _, l := range x.Data.Rows {
		if len(l) > 60 {
			return api.ErrLimit
		}
	}
	if _, err := table.Of(x.Schema, x.Data); err != nil {
		return api.ErrConstraint
	}
	return 0
}

// column tells the number of a table's column.
func (x *state) column(i int, name string) int {
	return slices.IndexFunc(x.Schema.Tables[i].Cols, func(c api.Column) bool { return c.Name == name })
}

func (x *state) insert(i int, told api.Stmt) (int, api.Class) {
	var wrong least
	for _, l := range told.Rows {
		row := make([]api.Value, len(x.Schema.Tables[i].Cols))
		for n, e := range l {
			v, err := expr.Eval(e, []api.Value{})
			wrong.see(err)
			row[x.column(i, told.Cols[n])] = v
		}
		x.Data.Rows[i] = append(x.Data.Rows[i], api.Row{Id: x.Data.Next[i], Vals: row})
		x.Data.Next[i]++
	}
	return len(told.Rows), api.Class(wrong)
}

// where tells which rows it is True for, or the worst error of all.
func (x *state) where(i int, e api.Expr) (map[uint64]bool, api.Class) {
	var wrong least
	out := map[uint64]bool{}
	for _, r := range x.Data.Rows[i] {
		v, err := yes, error(nil)
		if e.Kind != 0 {
			v, err = expr.Eval(e, r.Vals)
		}
		if wrong.see(err); v == yes {
			out[r.Id] = true
		}
	}
	return out, api.Class(wrong)
}

func (x *state) update(i int, told api.Stmt) (int, api.Class) {
	fit, c := x.where(i, told.Where)
	if c != 0 {
		return 0, c
	}
	var wrong least
	for k, r := range x.Data.Rows[i] {
		if !fit[r.Id] {
			continue
		}
		row := slices.Clone(r.Vals)
		for _, s := range told.Sets {
			v, err := expr.Eval(s.Expr, r.Vals)
			wrong.see(err)
			row[x.column(i, s.Name)] = v
		}
		x.Data.Rows[i][k].Vals = row
	}
	return len(fit), api.Class(wrong)
}

func (x *state) delete(i int, told api.Stmt) (int, api.Class) {
	fit, c := x.where(i, told.Where)
	x.Data.Rows[i] = slices.DeleteFunc(x.Data.Rows[i], func(r api.Row) bool { return fit[r.Id] })
	return len(fit), c
}

// define does what resolve took: the tables are others, the rows go with them.
func (x *state) define(s api.Stmt) {
	i := catalog.Find(x.Schema, s.Name)
	x.Schema, _ = catalog.Apply(x.Schema, s)
	switch s.Kind {
	case api.SCreate:
		x.Data.Rows, x.Data.Next = append(x.Data.Rows, nil), append(x.Data.Next, 1)
	case api.SDrop:
		x.Data.Rows, x.Data.Next = slices.Delete(x.Data.Rows, i, i+1), slices.Delete(x.Data.Next, i, i+1)
	}
}

// hold holds Do against the model: what is answered, and what the store is behind it: P17.1, P17.3. A clone knows nothing of it, and does the same.
func hold(t *testing.T, store *table.Store, x api.Stmt) (api.Answer, api.Class) {
	t.Helper()
	was := stateOf(store)
	clone := store.Clone()
	want, then, wrong := model(was, x)
	a, c := did(t, store, x)
	if c != wrong || !equal(a, want) {
		t.Fatalf("P17.1: %s, want %s: %+v on %s", say(a, c), say(want, wrong), x, was.say())
	}
	if !equal(stateOf(store), then) {
		t.Fatalf("P17.1: then %s, want %s: %+v on %s", stateOf(store).say(), then.say(), x, was.say())
	}
	if c == 0 && then.fault() != 0 {
		t.Fatalf("P17.3: no data: %s", then.say())
	}
	if !equal(stateOf(clone), was) {
		t.Fatalf("rule 6: a clone has changed: %+v on %s", x, was.say())
	}
	b, again := did(t, clone, x)
	if again != c || !equal(b, a) || !equal(stateOf(clone), then) {
		t.Fatalf("rule 6: %s, and then %s: %+v on %s", say(a, c), say(b, again), x, was.say())
	}
	return a, c
}
