package table

import (
	"cmp"
	"slices"

	"consistory/api"
	"consistory/value"
)

// everyRow: the Key of a way to all rows.
const everyRow = -1

// Rows: those of table i that w asks for, by Id.
func (t *Store) Rows(i int, w api.Way) ([]api.Row, error) {
	x, err := t.sheet(i)
	if err != nil {
		return nil, err
	}
	if !isWay(x.table.Keys, w) {
		return nil, named(x.table.Name, named("way", api.ErrForm))
	}
	l := x.orders[w.Key+1].rows(w)
	slices.SortFunc(l, func(a, b api.Row) int { return cmp.Compare(a.Id, b.Id) })
	return l, nil
}

// isWay: whether w may be one to the rows of a table with these keys. A bound that isn't asked for isn't looked at.
func isWay(keys []api.Key, w api.Way) bool {
	bound := len(w.Eq) // columns of the key
	switch {
	case w.Key == everyRow:
		return bound == 0 && !w.HasLo && !w.HasHi && w.Lo == api.Value{} && w.Hi == api.Value{}
	case w.Key < everyRow || w.Key >= len(keys):
		return false
	case w.HasLo || w.HasHi: // they bind one column more
		if w.HasLo && !value.Is(w.Lo) || w.HasHi && !value.Is(w.Hi) {
			return false
		}
		bound++
		fallthrough
	default:
		return bound <= len(keys[w.Key].Cols) && !slices.ContainsFunc(w.Eq, mayNotBe)
	}
}

func mayNotBe(v api.Value) bool { return !value.Is(v) }
