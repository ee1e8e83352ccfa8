package catalog

import (
	"slices"
	"strings"

	"consistory/api"
)

// copyOfSchema shares no memory with s, nor do its own lists with one another.
func copyOfSchema(s api.Schema) api.Schema {
	return api.Schema{Tables: copied(s.Tables, copyOfTable)}
}

func copyOfTable(t api.Table) api.Table {
	return api.Table{Name: strings.Clone(t.Name), Cols: copied(t.Cols, copyOfColumn), Keys: copied(t.Keys, copyOfKey)}
}

func copyOfColumn(c api.Column) api.Column {
	return api.Column{Name: strings.Clone(c.Name), Type: c.Type, NotNull: c.NotNull}
}

func copyOfKey(k api.Key) api.Key {
	return api.Key{Name: strings.Clone(k.Name), Cols: append([]int(nil), k.Cols...), Unique: k.Unique, Primary: k.Primary}
}

// copied makes a list anew, each of its elements by one.
func copied[T any](l []T, one func(T) T) []T {
	out := make([]T, len(l))
	for i, e := range l {
		out[i] = one(e)
	}
	return out
}

func alikeTable(a, b api.Table) bool {
	return a.Name == b.Name && slices.Equal(a.Cols, b.Cols) && slices.EqualFunc(a.Keys, b.Keys, alikeKey)
}

func alikeKey(a, b api.Key) bool {
	return a.Name == b.Name && slices.Equal(a.Cols, b.Cols) && a.Unique == b.Unique && a.Primary == b.Primary
}
