package catalog

import (
	"cmp"
	"errors"
	"iter"
	"slices"
	"strings"

	"consistory/api"
	"consistory/lex"
)

// faults tells all that is wrong of s, each fault wrapped with the names that it is wrong of. An element that is one too many is told where it stands: so whoever leaves at the first fault goes through no list that is too long.
func faults(s api.Schema) iter.Seq[error] {
	return func(yield func(error) bool) { inspector(yield).schema(s) }
}

// anyFault tells one of what may be no schema at all, and however great.
func anyFault(s api.Schema) error {
	for err := range faults(s) {
		return err
	}
	return nil
}

// nameFault tells the fault of what a statement made: that of a name ahead of that of a limit.
func nameFault(s api.Schema) error {
	var other error
	for err := range faults(s) {
		if errors.Is(err, api.ErrName) {
			return err
		}
		other = cmp.Or(other, err)
	}
	return other
}

// asForm tells a fault of what was handed in: it is wrong of the same names, but it is no statement's.
func asForm(err error) error {
	var w *api.Within
	if errors.As(err, &w) {
		return named(w.Part, asForm(w.Err))
	}
	return api.ErrForm
}

// named wraps err with the name it is wrong of, if there is one. The name is copied: it may be of a great text that was handed in.
func named(name string, err error) error {
	if name == "" {
		return err
	}
	return &api.Within{Part: strings.Clone(name), Err: err}
}

// inspector is told what is wrong, and answers whether to look on. So do its methods, which look at one part each.
type inspector func(error) bool

// in looks at what is a part of something of that name.
func (look inspector) in(name string) inspector {
	return func(err error) bool { return look(named(name, err)) }
}

func (look inspector) must(holds bool, class api.Class) bool { return holds || look(class) }

func (look inspector) schema(s api.Schema) bool {
	for i, t := range s.Tables {
		at := look.in(t.Name)
		if !at.must(i < api.MaxTables, api.ErrLimit) || !at.table(t) {
			return false
		}
	}
	names := takenNames(s)
	for i, name := range names {
		if !look.in(name).must(slices.Index(names, name) == i, api.ErrName) {
			return false
		}
	}
	return true
}

// takenNames tells those of tables and of keys, which share one room.
func takenNames(s api.Schema) []string {
	var names []string
	for _, t := range s.Tables {
		names = append(names, t.Name)
		for _, k := range t.Keys {
			if k.Name != "" {
				names = append(names, k.Name)
			}
		}
	}
	return names
}

func (look inspector) table(t api.Table) bool {
	return look.must(lex.Name(t.Name), api.ErrForm) && look.columns(t.Cols) && look.keys(t)
}

func (look inspector) columns(l []api.Column) bool {
	if !look.must(len(l) > 0, api.ErrForm) {
		return false
	}
	for i, c := range l {
		at := look.in(c.Name)
		goOn := at.must(i < api.MaxCols, api.ErrLimit) &&
			at.must(lex.Name(c.Name), api.ErrForm) &&
			at.must(c.Type >= api.Bool && c.Type <= api.Text, api.ErrForm) &&
			at.must(columnOf(l, c.Name) == i, api.ErrName)
		if !goOn {
			return false
		}
	}
	return true
}

func (look inspector) keys(t api.Table) bool {
	for i, k := range t.Keys {
		at := look.in(k.Name)
		goOn := at.must(i < api.MaxKeys, api.ErrLimit) &&
			at.must(!k.Primary || slices.IndexFunc(t.Keys, isPrimary) == i, api.ErrName) &&
			at.kind(k) &&
			at.keyColumns(k, t.Cols)
		if !goOn {
			return false
		}
	}
	return true
}

func isPrimary(k api.Key) bool { return k.Primary }

// kind: a primary key is one of those without a name, and these are unique.
func (look inspector) kind(k api.Key) bool {
	switch {
	case k.Primary:
		if !look.must(k.Name == "", api.ErrForm) {
			return false
		}
		fallthrough
	case k.Name == "":
		return look.must(k.Unique, api.ErrForm)
	}
	return look.must(lex.Name(k.Name), api.ErrForm)
}

func (look inspector) keyColumns(k api.Key, cols []api.Column) bool {
	if !look.must(len(k.Cols) > 0, api.ErrForm) {
		return false
	}
	for i, n := range k.Cols {
		if n < 0 || n >= len(cols) {
			if !look(api.ErrName) {
				return false
			}
			continue
		}
		at := look.in(cols[n].Name)
		goOn := at.must(i < api.MaxCols, api.ErrLimit) &&
			at.must(slices.Index(k.Cols, n) == i, api.ErrName) &&
			at.must(!k.Primary || cols[n].NotNull, api.ErrForm)
		if !goOn {
			return false
		}
	}
	return true
}

// columnOf: the number of the first column of that name; -1.
func columnOf(l []api.Column, name string) int {
	return slices.IndexFunc(l, func(c api.Column) bool { return c.Name == name })
}
