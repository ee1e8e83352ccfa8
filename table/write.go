package table

import (
	"iter"
	"slices"

	"consistory/api"
)

// Write: rows of table i are other ones, gone, and new, all at once.
func (t *Store) Write(i int, ups []api.Row, gone []uint64, made [][]api.Value) error {
	x, err := t.sheet(i)
	if err != nil {
		return err
	}
	x = x.clone()
	if err := x.write(ups, gone, made); err != nil {
		return named(x.table.Name, err)
	}
	t.sheets = slices.Clone(t.sheets)
	t.sheets[i] = x
	return nil
}

// write takes out all rows that are other ones or gone, ahead of putting any in: so none stands in the way of one that takes over its values. Behind an error s is of no use.
func (s *sheet) write(ups []api.Row, gone []uint64, made [][]api.Value) error {
	if err := s.takeAll(ups, gone); err != nil {
		return err
	}
	rows := written(ups, made, s.next)
	for r := range rows {
		if err := formFault(s.table.Cols, r.Vals); err != nil {
			return inRow(r.Id, err)
		}
	}
	if s.count()+len(ups)+len(made) > api.MaxRows {
		return api.ErrLimit
	}
	for r := range rows {
		if err := s.put(r); err != nil {
			return err
		}
	}
	s.next += uint64(len(made))
	if s.next > lastNext {
		return api.ErrConstraint
	}
	return nil
}

// takeAll takes the rows of ups and gone out; ErrPlace, if one isn't there, or not any more.
func (s *sheet) takeAll(ups []api.Row, gone []uint64) error {
	for _, r := range ups {
		if err := s.take(r.Id); err != nil {
			return err
		}
	}
	for _, id := range gone {
		if err := s.take(id); err != nil {
			return err
		}
	}
	return nil
}

// written tells the rows that are to be put in: those of ups, and those of made with their Ids.
func written(ups []api.Row, made [][]api.Value, next uint64) iter.Seq[api.Row] {
	return func(yield func(api.Row) bool) {
		for _, r := range ups {
			if !yield(r) {
				return
			}
		}
		for i, vals := range made {
			if !yield(api.Row{Id: next + uint64(i), Vals: vals}) {
				return
			}
		}
	}
}
