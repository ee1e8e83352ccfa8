package plan

import (
	"slices"

	"consistory/api"
)

// everyRow: the Key of a way to all rows.
const everyRow = -1

// ways tells those that tests give: each key's by the first test alone, as another test of its column may ask for values that don't fit it; then each key's by all tests together.
func ways(keys []api.Key, tests []test) []api.Way {
	out := []api.Way{{Key: everyRow}}
	for _, l := range [][]test{tests[:min(1, len(tests))], tests} {
		spans := spansOf(l)
		for n, k := range keys {
			w := byKey(n, k.Cols, spans)
			isTwice := slices.ContainsFunc(out, func(o api.Way) bool { return alike(o, w) })
			if bounds(w) > 0 && !isTwice {
				out = append(out, w)
			}
		}
	}
	return out
}

// spansOf tells what tests leave of each column.
func spansOf(l []test) [api.MaxCols]span {
	var out [api.MaxCols]span
	for _, t := range l {
		out[t.col] = out[t.col].and(t.span)
	}
	return out
}

// byKey tells the way by key n to what is in the spans of its columns, as far as it goes: the first column that isn't bound to one value is the last one that it looks at.
func byKey(n int, cols []int, spans [api.MaxCols]span) api.Way {
	w := api.Way{Key: n}
	for _, c := range cols {
		s := spans[c]
		if !s.isOne() {
			w.Lo, w.HasLo, w.Hi, w.HasHi = s.lo, s.hasLo, s.hi, s.hasHi
			break
		}
		w.Eq = append(w.Eq, s.lo)
	}
	return w
}

// bounds tells how many a way has.
func bounds(w api.Way) int {
	n := len(w.Eq)
	if w.HasLo {
		n++
	}
	if w.HasHi {
		n++
	}
	return n
}

func alike(a, b api.Way) bool {
	return a.Key == b.Key && slices.Equal(a.Eq, b.Eq) && a.Lo == b.Lo && a.Hi == b.Hi && a.HasLo == b.HasLo && a.HasHi == b.HasHi
}

// guess tells how many of so many rows w may tell. It takes a value to be every tenth row's, and a bound to leave out every other row; but where no two rows may be alike there is one, and elsewhere there are two at least.
func guess(keys []api.Key, w api.Way, rows int) int {
	if w.Key == everyRow {
		return rows
	}
	if k := keys[w.Key]; k.Unique && len(w.Eq) == len(k.Cols) {
		return 1
	}
	for range w.Eq {
		rows /= 10
	}
	for range bounds(w) - len(w.Eq) {
		rows /= 2
	}
	return 2 + rows
}
