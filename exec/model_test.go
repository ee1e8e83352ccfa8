package exec_test

import (
	"cmp"
	"errors"
	"fmt"
	"slices"
	"testing"

	"consistory/api"
	"consistory/catalog"
	"consistory/expr"
	"consistory/plan"
	"consistory/resolve"
	"consistory/table"
	"consistory/value"
)

// least: of the errors of a step the least class; 0 of none.
type least api.Class

func (l *least) see(err error) {
	var c api.Class
	if errors.As(err, &c) && (*l == 0 || c < api.Class(*l)) {
		*l = least(c)
	}
}

// tells: whether a way tells a row, as chapter 12 has it.
func tells(keys []api.Key, w api.Way, row []api.Value) bool {
	if w.Key == -1 {
		return true
	}
	cols := keys[w.Key].Cols
	for i, v := range w.Eq {
		if value.Compare(row[cols[i]], v) != 0 {
			return false
		}
	}
	if !w.HasLo && !w.HasHi {
		return true
	}
	v := row[cols[len(w.Eq)]]
	return v != null && !(w.HasLo && value.Compare(v, w.Lo) < 0) && !(w.HasHi && value.Compare(v, w.Hi) > 0)
}

// modelJoined tells steps 1 and 2 of a statement that resolve told.
func modelJoined(store *table.Store, x api.Stmt, w api.Way) ([][]api.Value, api.Class) {
	s, d := store.Schema(), store.Data()
	pairs := 1
	for _, f := range x.From {
		pairs *= len(d.Rows[catalog.Find(s, f.Name)])
	}
	if pairs > 20000 {
		return nil, api.ErrLimit
	}
	rows := [][]api.Value{nil}
	for i, f := range x.From {
		n := catalog.Find(s, f.Name)
		var wrong least
		var out [][]api.Value
		for _, row := range rows {
			fits := 0
			for _, r := range d.Rows[n] {
				if i == 0 && !tells(s.Tables[n].Keys, w, r.Vals) {
					continue
				}
				wide := append(slices.Clip(row), r.Vals...)
				ok, err := expr.Truth(f.On, wide)
				if wrong.see(err); ok {
					fits++
					out = append(out, wide)
				}
			}
			if fits == 0 && f.Left {
				out = append(out, append(slices.Clip(row), make([]api.Value, len(s.Tables[n].Cols))...))
			}
		}
		if wrong != 0 {
			return nil, api.Class(wrong)
		}
		rows = out
	}
	var wrong least
	var out [][]api.Value
	for _, row := range rows {
		v, err := yes, error(nil)
		if x.Where.Kind != 0 {
			v, err = expr.Eval(x.Where, row)
		}
		if wrong.see(err); v == yes {
			out = append(out, row)
		}
	}
	if wrong != 0 {
		return nil, api.Class(wrong)
	}
	return out, 0
}

// modelGroups tells step 3; beside an ungrouped statement each row by itself.
func modelGroups(x api.Stmt, rows [][]api.Value) ([][][]api.Value, api.Class) {
	var groups [][][]api.Value
	if len(x.Group) == 0 && modelGrouped(x) {
		groups = append(groups, rows)
	}
	own := func(row []api.Value) (l []api.Value) {
		for _, e := range x.Group {
			v, _ := expr.Eval(e, row)
			l = append(l, v)
		}
		return l
	}
	for _, row := range rows {
		at := slices.IndexFunc(groups, func(g [][]api.Value) bool { return value.Rows(own(g[0]), own(row)) == 0 })
		switch {
		case !modelGrouped(x) || len(x.Group) > 0 && at < 0:
			groups = append(groups, [][]api.Value{row})
		case len(x.Group) > 0:
			groups[at] = append(groups[at], row)
		}
	}
	if x.Having.Kind == 0 {
		return groups, 0
	}
	var wrong least
	groups = slices.DeleteFunc(groups, func(g [][]api.Value) bool {
		v, err := expr.Group(x.Having, g)
		wrong.see(err)
		return v != yes
	})
	return groups, api.Class(wrong)
}

func modelGrouped(x api.Stmt) bool {
	found := len(x.Group) > 0 || x.Having.Kind != 0
	var look func(e api.Expr)
	look = func(e api.Expr) {
		found = found || e.Kind == api.EAgg
		for _, a := range e.Args {
			look(a)
		}
	}
	for _, i := range x.Items {
		look(i.Expr)
	}
	for _, o := range x.Order {
		look(o.Expr)
	}
	return found
}

// model tells what x means over the store's rows, with those of the first source that w tells; or the class of its error.
func model(store *table.Store, x api.Stmt, w api.Way) (api.Meaning, api.Class) {
	if x.Kind != api.SSelect {
		return api.Meaning{}, api.ErrForm
	}
	x, err := resolve.Stmt(store.Schema(), x)
	if err != nil {
		var c api.Class
		errors.As(err, &c)
		return api.Meaning{}, c
	}
	if _, err := store.Rows(catalog.Find(store.Schema(), x.From[0].Name), w); err != nil {
		return api.Meaning{}, api.ErrForm
	}
	rows, c := modelJoined(store, x, w)
	if c != 0 {
		return api.Meaning{}, c
	}
	groups, c := modelGroups(x, rows)
	if c != 0 {
		return api.Meaning{}, c
	}
	return modelLines(x, groups)
}

// modelLines tells steps 4 to 6, but for the order, and the columns.
func modelLines(x api.Stmt, groups [][][]api.Value) (api.Meaning, api.Class) {
	m := api.Meaning{Limit: x.Limit}
	for n, i := range x.Items {
		name := i.Name
		if name == "" && i.Expr.Kind == api.ECol {
			name = i.Expr.Name
		}
		if name == "" {
			name = fmt.Sprint("col", n+1)
		}
		m.Cols = append(m.Cols, name)
	}
	for _, o := range x.Order {
		m.Desc = append(m.Desc, o.Desc)
	}
	var wrong least
	reckon := func(e api.Expr, g [][]api.Value) api.Value {
		v, err := expr.Group(e, g)
		if !modelGrouped(x) {
			v, err = expr.Eval(e, g[0])
		}
		wrong.see(err)
		return v
	}
	for _, g := range groups {
		var vals, keys []api.Value
		for _, i := range x.Items {
			vals = append(vals, reckon(i.Expr, g))
		}
		for _, o := range x.Order {
			keys = append(keys, reckon(o.Expr, g))
		}
		if !x.Distinct || !slices.ContainsFunc(m.Rows, func(o []api.Value) bool { return value.Rows(o, vals) == 0 }) {
			m.Rows, m.Keys = append(m.Rows, vals), append(m.Keys, keys)
		}
	}
	if wrong != 0 {
		return api.Meaning{}, api.Class(wrong)
	}
	return m, 0
}

// fault tells why a isn't an answer that m allows; empty, if it is one.
func fault(m api.Meaning, a api.Answer) string {
	n := len(m.Rows)
	if m.Limit >= 0 && m.Limit < int64(n) {
		n = int(m.Limit)
	}
	if !equal(a.Cols, m.Cols) || a.Count != 0 || len(a.Rows) != n {
		return fmt.Sprintf("%d rows of %v, count %d, want %d of %v", len(a.Rows), a.Cols, a.Count, n, m.Cols)
	}
	var places []int
	for i := range m.Rows {
		places = append(places, i)
	}
	compare := func(i, k int) int {
		for n, desc := range m.Desc {
			side := value.Compare(m.Keys[i][n], m.Keys[k][n])
			if side != 0 && desc {
				return -side
			}
			if side != 0 {
				return side
			}
		}
		return 0
	}
	slices.SortFunc(places, func(i, k int) int { return cmp.Or(compare(i, k), cmp.Compare(i, k)) })
	for i, from := 0, 0; i < n; i++ {
		if compare(places[from], places[i]) != 0 {
			from = i
		}
		// one of those with the keys of this place, none of them twice
		to := from
		for to < len(places) && compare(places[from], places[to]) == 0 {
			to++
		}
		at := slices.IndexFunc(places[i:to], func(k int) bool { return equal(m.Rows[k], a.Rows[i]) })
		if at < 0 {
			return fmt.Sprint("row ", i, ": ", a.Rows[i])
		}
		places[i], places[i+at] = places[i+at], places[i]
	}
	return ""
}

// hold holds all calls of x against the model, and By all ways of plan: P16.1, P16.2, P16.3, P16.4. It tells the answer's class, and how many ways there are by keys.
func hold(t *testing.T, store *table.Store, x api.Stmt) (api.Answer, api.Class, int) {
	t.Helper()
	m, want := model(store, x, everyRow)
	a, c := query(t, store, x)
	if c != want {
		t.Fatalf("P16.1: class %d, want %d", c, want)
	}
	if why := fault(m, a); c == 0 && why != "" {
		t.Fatalf("P16.1: %s", why)
	}
	holdJoined(t, store, x)
	ways, err := plan.All(store.Schema(), x)
	if err != nil {
		ways = []api.Way{everyRow}
	}
	for _, w := range ways {
		b, c := by(t, store, x, w)
		if c != want {
			t.Fatalf("P16.4: by %s: class %d, want %d", way(w), c, want)
		}
		if why := fault(m, b); c == 0 && why != "" {
			t.Fatalf("P16.4: by %s: %s", way(w), why)
		}
	}
	return a, c, len(ways) - 1
}

// holdBy holds By any way against the model: P16.2.
func holdBy(t *testing.T, store *table.Store, x api.Stmt, w api.Way) api.Class {
	t.Helper()
	m, want := model(store, x, w)
	a, c := by(t, store, x, w)
	if c != want {
		t.Fatalf("P16.2: by %s: class %d, want %d", way(w), c, want)
	}
	if why := fault(m, a); c == 0 && why != "" {
		t.Fatalf("P16.2: by %s: %s", way(w), why)
	}
	return c
}

// holdJoined holds Joined against the model: P16.3.
func holdJoined(t *testing.T, store *table.Store, x api.Stmt) {
	t.Helper()
	l, c := joined(t, store, x)
	var rows [][]api.Value
	_, want := model(store, api.Stmt{}, everyRow)
	if y, err := resolve.Stmt(store.Schema(), x); x.Kind == api.SSelect && err == nil {
		rows, want = modelJoined(store, y, everyRow)
	} else if x.Kind == api.SSelect {
		want = class(t, err)
	}
	if c != want {
		t.Fatalf("P16.3: class %d, want %d", c, want)
	}
	if got, want := sayRows(l, false), sayRows(rows, false); got != want || len(l) != len(rows) {
		t.Fatalf("P16.3: %s, want %s", got, want)
	}
}
