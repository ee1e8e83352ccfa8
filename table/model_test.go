package table_test

import (
	"errors"
	"slices"
	"strings"

	"consistory/api"
	"consistory/catalog"
	"consistory/value"
)

// A second saying of the chapter: lists alone, each promise word by word.

type model struct {
	s api.Schema
	d api.Data
}

// isData: whether d is data of s.
func isData(s api.Schema, d api.Data) bool {
	if len(d.Rows) != len(s.Tables) || len(d.Next) != len(s.Tables) {
		return false
	}
	for i, t := range s.Tables {
		if d.Next[i] < 1 || d.Next[i] > 1<<62 || len(d.Rows[i]) > 60 {
			return false
		}
		last := uint64(0)
		for _, r := range d.Rows[i] {
			if r.Id <= last || r.Id >= d.Next[i] || !isForm(t, r.Vals) {
				return false
			}
			last = r.Id
			for k, c := range t.Cols {
				if c.NotNull && r.Vals[k].Kind == api.Null {
					return false
				}
			}
		}
		for _, k := range t.Keys {
			if k.Unique && hasAlike(d.Rows[i], k.Cols) {
				return false
			}
		}
	}
	return true
}

// isForm: as many values as columns, each of its column's kind, or a Null.
func isForm(t api.Table, l []api.Value) bool {
	if len(l) != len(t.Cols) {
		return false
	}
	for i, v := range l {
		if !isValue(v) || v.Kind != api.Null && v.Kind != t.Cols[i].Type {
			return false
		}
	}
	return true
}

func isValue(v api.Value) bool {
	switch v.Kind {
	case api.Null:
		return v.Int == 0 && v.Text == ""
	case api.Bool:
		return (v.Int == 0 || v.Int == 1) && v.Text == ""
	case api.Int:
		return v.Text == ""
	case api.Text:
		return v.Int == 0 && len(v.Text) <= 40 && !strings.Contains(v.Text, "\x00")
	}
	return false
}

// hasAlike: whether two rows are alike in these columns, none of which is Null.
func hasAlike(l []api.Row, cols []int) bool {
	for i, a := range l {
		for _, b := range l[:i] {
			alike := true
			for _, n := range cols {
				alike = alike && a.Vals[n].Kind != api.Null && a.Vals[n] == b.Vals[n]
			}
			if alike {
				return true
			}
		}
	}
	return false
}

// define tells the class of Define, and does it.
func (m *model) define(x api.Stmt) api.Class {
	s, err := catalog.Apply(m.s, x)
	var c api.Class
	if errors.As(err, &c) {
		return c
	}
	d := deepCopy(m.d)
	switch x.Kind {
	case api.SCreate:
		d.Rows, d.Next = append(d.Rows, nil), append(d.Next, 1)
	case api.SDrop:
		i := catalog.Find(m.s, x.Name)
		d.Rows, d.Next = slices.Delete(d.Rows, i, i+1), slices.Delete(d.Next, i, i+1)
	}
	if !isData(s, d) {
		return api.ErrConstraint
	}
	m.s, m.d = s, d
	return 0
}

// write tells the class of Write, and does it.
func (m *model) write(i int, ups []api.Row, gone []uint64, made [][]api.Value) api.Class {
	if i < 0 || i >= len(m.s.Tables) {
		return api.ErrPlace
	}
	rows := map[uint64][]api.Value{}
	for _, r := range m.d.Rows[i] {
		rows[r.Id] = r.Vals
	}
	asked := slices.Clone(gone)
	for _, r := range ups {
		asked = append(asked, r.Id)
	}
	for k, id := range asked {
		if _, there := rows[id]; !there || slices.Contains(asked[:k], id) {
			return api.ErrPlace
		}
	}
	for _, l := range made {
		if !isForm(m.s.Tables[i], l) {
			return api.ErrForm
		}
	}
	for _, r := range ups {
		if !isForm(m.s.Tables[i], r.Vals) {
			return api.ErrForm
		}
		rows[r.Id] = r.Vals
	}
	for _, id := range gone {
		delete(rows, id)
	}
	d := deepCopy(m.d)
	for _, l := range made {
		rows[d.Next[i]] = l
		d.Next[i]++
	}
	if len(rows) > 60 {
		return api.ErrLimit
	}
	d.Rows[i] = nil
	for id, l := range rows {
		d.Rows[i] = append(d.Rows[i], api.Row{Id: id, Vals: l})
	}
	slices.SortFunc(d.Rows[i], func(a, b api.Row) int { return int(int64(a.Id) - int64(b.Id)) })
	if !isData(m.s, d) {
		return api.ErrConstraint
	}
	m.d = deepCopy(d)
	return 0
}

// rows tells what Rows does: the rows, and the class.
func (m *model) rows(i int, w api.Way) ([]api.Row, api.Class) {
	if i < 0 || i >= len(m.s.Tables) {
		return nil, api.ErrPlace
	}
	keys := m.s.Tables[i].Keys
	if w.Key < -1 || w.Key >= len(keys) {
		return nil, api.ErrForm
	}
	if w.Key == -1 {
		if len(w.Eq) > 0 || w.HasLo || w.HasHi || w.Lo != null || w.Hi != null {
			return nil, api.ErrForm
		}
		return m.d.Rows[i], 0
	}
	cols := keys[w.Key].Cols
	if len(w.Eq) > len(cols) || len(w.Eq) == len(cols) && (w.HasLo || w.HasHi) {
		return nil, api.ErrForm
	}
	asked := slices.Clone(w.Eq)
	if w.HasLo {
		asked = append(asked, w.Lo)
	}
	if w.HasHi {
		asked = append(asked, w.Hi)
	}
	for _, v := range asked {
		if !isValue(v) {
			return nil, api.ErrForm
		}
	}
	var out []api.Row
	for _, r := range m.d.Rows[i] {
		if fits(r, cols, w) {
			out = append(out, r)
		}
	}
	return out, 0
}

func fits(r api.Row, cols []int, w api.Way) bool {
	for k, v := range w.Eq {
		if value.Compare(r.Vals[cols[k]], v) != 0 {
			return false
		}
	}
	if !w.HasLo && !w.HasHi {
		return true
	}
	next := r.Vals[cols[len(w.Eq)]]
	return next.Kind != api.Null && (!w.HasLo || value.Compare(next, w.Lo) >= 0) && (!w.HasHi || value.Compare(next, w.Hi) <= 0)
}
