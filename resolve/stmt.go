package resolve

import (
	"slices"
	"strings"

	"consistory/api"
	"consistory/catalog"
)

// stmt tells all of x, which is the program's own.
func stmt(s api.Schema, x *api.Stmt) error {
	switch x.Kind {
	case api.SInsert, api.SUpdate, api.SDelete:
		i := catalog.Find(s, x.Name)
		if i < 0 {
			return in("table", of(x.Name, api.ErrName))
		}
		return write(s.Tables[i], x)
	case api.SSelect:
		return query(s, x)
	}
	_, err := catalog.Apply(s, *x)
	return in("definition", err)
}

// write tells what changes rows of t.
func write(t api.Table, x *api.Stmt) error {
	row := scope{cols: columns(nil, t.Name, t.Cols)}
	switch x.Kind {
	case api.SInsert:
		return insert(t, x)
	case api.SUpdate:
		if err := sets(t, row, x.Sets); err != nil {
			return in("SET", err)
		}
		fallthrough
	default:
		return in("WHERE", row.condition(&x.Where))
	}
}

func insert(t api.Table, x *api.Stmt) error {
	if len(x.Cols) == 0 {
		x.Cols = names(t)
	}
	types, err := typesOf(t, x.Cols)
	if err != nil {
		return in("columns", err)
	}
	return in("VALUES", values(x.Cols, types, x.Rows))
}

func names(t api.Table) []string {
	var l []string
	for _, c := range t.Cols {
		l = append(l, strings.Clone(c.Name))
	}
	return l
}

// typesOf tells those of the columns of t with these names, none of which may stand twice.
func typesOf(t api.Table, names []string) ([]int, error) {
	var l []int
	for i, name := range names {
		n := columnOf(t, name)
		if n < 0 || slices.Index(names, name) < i {
			return nil, of(name, api.ErrName)
		}
		l = append(l, t.Cols[n].Type)
	}
	return l, nil
}

// columnOf: the number of the column of that name; -1.
func columnOf(t api.Table, name string) int {
	return slices.IndexFunc(t.Cols, func(c api.Column) bool { return c.Name == name })
}

// values tells rows for columns of these names and types. How long the rows are is asked ahead of what is in them.
func values(names []string, types []int, rows [][]api.Expr) error {
	for _, row := range rows {
		if len(row) != len(types) {
			return api.ErrType
		}
	}
	for _, row := range rows {
		for i := range row {
			if err := (scope{}).typed(&row[i], types[i]); err != nil {
				return of(names[i], err)
			}
		}
	}
	return nil
}

func sets(t api.Table, row scope, l []api.Set) error {
	for i := range l {
		name := l[i].Name
		n := columnOf(t, name)
		stood := slices.ContainsFunc(l[:i], func(s api.Set) bool { return s.Name == name })
		if n < 0 || stood {
			return of(name, api.ErrName)
		}
		if err := row.typed(&l[i].Expr, t.Cols[n].Type); err != nil {
			return of(name, err)
		}
	}
	return nil
}
