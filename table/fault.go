package table

import (
	"errors"
	"iter"
	"strings"

	"consistory/api"
	"consistory/value"
)

// faults tells all that is wrong of a row's values, whatever other rows there are: ErrForm of what no row may have, ErrConstraint of a Null where none may be.
func faults(cols []api.Column, vals []api.Value) iter.Seq[error] {
	return func(yield func(error) bool) {
		if len(vals) != len(cols) {
			yield(api.ErrForm)
			return
		}
		for i, c := range cols {
			if class := valueFault(c, vals[i]); class != 0 && !yield(named(c.Name, class)) {
				return
			}
		}
	}
}

func valueFault(c api.Column, v api.Value) api.Class {
	switch {
	case !value.Is(v):
		return api.ErrForm
	case !isNull(v) && v.Kind != c.Type:
		return api.ErrForm
	case isNull(v) && c.NotNull:
		return api.ErrConstraint
	}
	return 0
}

// formFault tells what of a row's values is an ErrForm. A Null is passed over: what it does wrong is told later.
func formFault(cols []api.Column, vals []api.Value) error {
	for err := range faults(cols, vals) {
		if errors.Is(err, api.ErrForm) {
			return err
		}
	}
	return nil
}

// asForm tells a fault of data that was handed in: it is wrong of the same names, but nobody wrote it.
func asForm(err error) error {
	var w *api.Within
	if errors.As(err, &w) {
		return named(w.Part, asForm(w.Err))
	}
	return api.ErrForm
}

// named wraps err with the name of what it is wrong of. The name is copied: it may be one that was handed in.
func named(name string, err error) error {
	return &api.Within{Part: strings.Clone(name), Err: err}
}

// keyName tells what key k of table t is called: one without a name by its kind and its columns.
func keyName(t api.Table, k api.Key) string {
	if k.Name != "" {
		return k.Name
	}
	var names []string
	for _, n := range k.Cols {
		names = append(names, t.Cols[n].Name)
	}
	kind := "UNIQUE"
	if k.Primary {
		kind = "PRIMARY KEY"
	}
	return kind + " (" + strings.Join(names, ", ") + ")"
}
