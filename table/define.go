package table

import (
	"slices"

	"consistory/api"
	"consistory/catalog"
)

// Define: the tables are as x makes them, and the rows go with them.
func (t *Store) Define(x api.Stmt) error {
	was := t.Schema()
	schema, err := catalog.Apply(was, x)
	if err != nil {
		return err
	}
	sheets := slices.Clone(t.sheets)
	switch x.Kind {
	case api.SCreate:
		sheets = append(sheets, newSheet(schema.Tables[len(sheets)]))
	case api.SDrop:
		i := catalog.Find(was, x.Name)
		sheets = slices.Delete(sheets, i, i+1)
	case api.SIndex:
		i := catalog.Find(was, x.Name)
		sheets[i], err = sheets[i].indexed(schema.Tables[i])
	case api.SUnindex:
		i, k := catalog.FindKey(was, x.Index)
		sheets[i] = sheets[i].unindexed(schema.Tables[i], k)
	}
	if err != nil {
		return named(x.Name, err)
	}
	t.sheets = sheets
	return nil
}

// indexed tells s as the table with one key more; ErrConstraint, if its rows can't have that.
func (s sheet) indexed(table api.Table) (sheet, error) {
	k := len(s.table.Keys)
	s.table = table
	s.orders = append(slices.Clone(s.orders), newOrder(table.Keys[k].Cols))
	for _, r := range s.all() {
		if err := s.enter(k, r); err != nil {
			return sheet{}, err
		}
	}
	return s, nil
}

// unindexed tells s as the table without key k.
func (s sheet) unindexed(table api.Table, k int) sheet {
	s.table = table
	s.orders = slices.Delete(slices.Clone(s.orders), k+1, k+2)
	return s
}
