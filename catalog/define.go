package catalog

import (
	"slices"
	"strings"

	"consistory/api"
)

// defined tells what x makes of s: a new list of tables, which may have too many of something, or a name twice. What x names must be there, though.
func defined(s api.Schema, x api.Stmt) (api.Schema, error) {
	out := copyOfSchema(s)
	var err error
	switch x.Kind {
	case api.SCreate:
		err = create(&out, x)
	case api.SIndex:
		err = index(&out, x)
	case api.SDrop:
		err = drop(&out, x.Name)
	case api.SUnindex:
		err = unindex(&out, x.Index)
	}
	return out, err
}

func create(s *api.Schema, x api.Stmt) error {
	t := copyOfTable(x.Table)
	for i, names := range x.KeyCols {
		cols, err := numbers(t, names)
		if err != nil {
			return err
		}
		t.Keys[i].Cols = cols
		if t.Keys[i].Primary {
			forbidNull(t.Cols, cols)
		}
	}
	s.Tables = append(s.Tables, t)
	return nil
}

// forbidNull: in the columns with these numbers.
func forbidNull(cols []api.Column, which []int) {
	for _, n := range which {
		cols[n].NotNull = true
	}
}

func index(s *api.Schema, x api.Stmt) error {
	i := Find(*s, x.Name)
	if i < 0 {
		return named(x.Name, api.ErrName)
	}
	t := &s.Tables[i]
	cols, err := numbers(*t, x.Cols)
	if err != nil {
		return err
	}
	t.Keys = append(t.Keys, api.Key{Name: strings.Clone(x.Index), Cols: cols, Unique: x.Unique})
	return nil
}

func drop(s *api.Schema, name string) error {
	i := Find(*s, name)
	if i < 0 {
		return named(name, api.ErrName)
	}
	s.Tables = slices.Delete(s.Tables, i, i+1)
	return nil
}

func unindex(s *api.Schema, name string) error {
	i, k := FindKey(*s, name)
	if i < 0 {
		return named(name, api.ErrName)
	}
	t := &s.Tables[i]
	t.Keys = slices.Delete(t.Keys, k, k+1)
	return nil
}

// numbers tells those of the columns of t with these names.
func numbers(t api.Table, names []string) ([]int, error) {
	var l []int
	for _, name := range names {
		n := columnOf(t.Cols, name)
		if n < 0 {
			return nil, named(t.Name, named(name, api.ErrName))
		}
		l = append(l, n)
	}
	return l, nil
}
