package value_test

import (
	"cmp"
	"math/rand"
	"strings"
	"testing"

	"consistory/api"
	"consistory/value"
)

func TestIs(t *testing.T) {
	for _, v := range rising() {
		if !value.Is(v) {
			t.Errorf("P6.1: %v may be", v)
		}
	}
	for _, v := range wrong() {
		if value.Is(v) {
			t.Errorf("P6.1: %v may not be", v)
		}
	}
}

func TestCompare(t *testing.T) {
	l := rising()
	for i, a := range l {
		for j, b := range l {
			if got := value.Compare(a, b); got != cmp.Compare(i, j) {
				t.Errorf("P6.1: Compare(%v, %v): %d", a, b, got)
			}
		}
	}
}

// TestCompareOfWhatMayNotBe: it counts as Null, whatever it looks like.
func TestCompareOfWhatMayNotBe(t *testing.T) {
	for _, a := range wrong() {
		for _, b := range wrong() {
			if got := value.Compare(a, b); got != 0 {
				t.Errorf("P6.1: Compare(%v, %v): %d", a, b, got)
			}
		}
		for _, b := range rising() {
			right := value.Compare(null, b)
			if got := value.Compare(a, b); got != right {
				t.Errorf("P6.1: Compare(%v, %v): %d", a, b, got)
			}
			if got := value.Compare(b, a); got != -right {
				t.Errorf("P6.1: Compare(%v, %v): %d", b, a, got)
			}
		}
	}
}

func TestRows(t *testing.T) {
	long := make([]api.Value, 1000)
	longer := append(append([]api.Value{}, long...), no)
	for _, c := range []struct {
		a, b []api.Value
		want int
	}{
		{nil, nil, 0},
		{nil, row(), 0},
		{nil, row(null), -1},
		{nil, row(api.Value{Kind: 9}), -1},
		{row(integer(1)), row(integer(1)), 0},
		{row(integer(1)), row(integer(1), null), -1},
		{row(integer(2)), row(integer(1), integer(1)), 1},
		{row(integer(1), integer(9)), row(integer(2), integer(1)), -1},
		{row(integer(1), integer(9)), row(integer(1), integer(1)), 1},
		{row(null, textOf("a"), no), row(null, textOf("a"), yes), -1},
		{row(null, textOf("b"), no), row(null, textOf("a"), yes), 1},
		{row(textOf("a"), textOf("b")), row(textOf("ab")), -1},
		{row(api.Value{Kind: 9}), row(null), 0},
		{row(api.Value{Kind: 9}, yes), row(api.Value{Int: 1}, no), 1},
		{row(api.Value{Kind: api.Int, Int: 5, Text: "x"}), row(no), -1},
		{long, long, 0},
		{long, longer, -1},
		{longer, append(append([]api.Value{}, long...), null, null), 1},
	} {
		if got := value.Rows(c.a, c.b); got != c.want {
			t.Errorf("P6.1: Rows(%v, %v): %d", c.a, c.b, got)
		}
		if got := value.Rows(c.b, c.a); got != -c.want {
			t.Errorf("P6.1: Rows(%v, %v): %d", c.b, c.a, got)
		}
	}
}

// modelRows: Rows by its words, with Compare.
func modelRows(a, b []api.Value) int {
	for i := range min(len(a), len(b)) {
		if c := value.Compare(a[i], b[i]); c != 0 {
			return c
		}
	}
	return cmp.Compare(len(a), len(b))
}

func TestRowsByChance(t *testing.T) {
	r := rand.New(rand.NewSource(1))
	for range 20000 {
		a, b := chanceRow(r, r.Intn(5)), chanceRow(r, r.Intn(5))
		if k := r.Intn(5); k < min(len(a), len(b)) {
			copy(b[:k], a)
		}
		if got := value.Rows(a, b); got != modelRows(a, b) {
			t.Fatalf("P6.1: Rows(%v, %v): %d", a, b, got)
		}
	}
}

func TestPrint(t *testing.T) {
	longest := strings.Repeat("'", api.MaxText)
	for _, c := range []struct {
		v    api.Value
		want string
	}{
		{null, "NULL"},
		{yes, "TRUE"},
		{no, "FALSE"},
		{integer(0), "0"},
		{integer(7), "7"},
		{integer(-120), "-120"},
		{integer(-1 << 63), "-9223372036854775808"},
		{integer(1<<63 - 1), "9223372036854775807"},
		{textOf(""), "''"},
		{textOf("a b"), "'a b'"},
		{textOf("it's"), "'it''s'"},
		{textOf("''"), "''''''"},
		{textOf("\"\\\n\xff"), "'\"\\\n\xff'"},
		{textOf(longest), "'" + longest + longest + "'"},
	} {
		if got := value.Print(c.v); got != c.want {
			t.Errorf("P6.5: Print(%v): %s", c.v, got)
		}
	}
	for _, v := range wrong() {
		if got := value.Print(v); got != "?" {
			t.Errorf("P6.5: Print(%v): %s", v, got)
		}
	}
}
