package value

import (
	"cmp"
	"slices"
	"strings"

	"consistory/api"
)

// Compare: how a stands to b.
func Compare(a, b api.Value) int { return compareSound(sound(a), sound(b)) }

// Rows: how a stands to b, by the first values that differ, then by how many there are.
func Rows(a, b []api.Value) int { return slices.CompareFunc(a, b, Compare) }

// sound tells v, or Null in its stead if it may not be.
func sound(v api.Value) api.Value {
	if !Is(v) {
		return api.Value{}
	}
	return v
}

// compareSound: the kinds' numbers rise as their values do, and of values that may be a field that their kind has no use for is zero.
func compareSound(a, b api.Value) int {
	return cmp.Or(cmp.Compare(a.Kind, b.Kind), cmp.Compare(a.Int, b.Int), strings.Compare(a.Text, b.Text))
}
