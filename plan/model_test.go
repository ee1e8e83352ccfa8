package plan_test

import (
	"fmt"
	"slices"
	"strings"

	"consistory/api"
	"consistory/expr"
	"consistory/value"
)

// tells: whether a way tells a row, as chapter 12 has it.
func tells(keys []api.Key, w api.Way, row []api.Value) bool {
	if w.Key == -1 {
		return true
	}
	cols := keys[w.Key].Cols
	for i, v := range w.Eq {
		if value.Compare(row[cols[i]], v) != 0 {
			return false
		}
	}
	if !w.HasLo && !w.HasHi {
		return true
	}
	v := row[cols[len(w.Eq)]]
	return v != null && !(w.HasLo && value.Compare(v, w.Lo) < 0) && !(w.HasHi && value.Compare(v, w.Hi) > 0)
}

// sheets: rows of each source of a statement.
type sheets [][][]api.Value

// fault tells why a way isn't safe, as rows of the sources show it; empty, if they don't. The statement is one that resolve told.
func fault(keys []api.Key, x api.Stmt, w api.Way, rows sheets) string {
	for _, row := range rows[0] {
		if tells(keys, w, row) {
			continue
		}
		for wide := range wider([][]api.Value{row}, x, rows) {
			l := slices.Concat(wide...)
			for i := 1; i < len(wide); i++ {
				if _, err := expr.Truth(x.From[i].On, l[:width(wide[:i+1])]); err != nil {
					return fmt.Sprint("On of ", i, " errs on ", l)
				}
			}
			ok, err := expr.Truth(x.Where, l)
			if err != nil {
				return fmt.Sprint("Where errs on ", l)
			}
			if ok {
				return fmt.Sprint("Where is True on ", l)
			}
		}
	}
	return ""
}

func width(l [][]api.Value) int { return len(slices.Concat(l...)) }

// wider gives all rows that begin with these of the first sources: each with each of the others', and with NULLs for these.
func wider(ahead [][]api.Value, x api.Stmt, rows sheets) func(func([][]api.Value) bool) {
	return func(yield func([][]api.Value) bool) {
		n := len(ahead)
		if n >= len(x.From) {
			yield(ahead)
			return
		}
		for _, row := range slices.Concat(rows[n], [][]api.Value{make([]api.Value, len(rows[n][0]))}) {
			for l := range wider(append(slices.Clip(ahead), row), x, rows) {
				if !yield(l) {
					return
				}
			}
		}
	}
}

// joined tells what chapter 16 says of steps 1 and 2, with those rows of the first source that a way tells: the rows that are left, or the worst error's class of the first step that errs.
func joined(keys []api.Key, x api.Stmt, w api.Way, rows sheets) string {
	var l [][]api.Value
	for _, row := range rows[0] {
		if tells(keys, w, row) {
			l = append(l, row)
		}
	}
	for i := 1; i < len(x.From); i++ {
		var worst error
		if l, worst = join(l, x.From[i], rows[i]); worst != nil {
			return worst.Error()
		}
	}
	var out []string
	var worst error
	for _, row := range l {
		ok, err := expr.Truth(x.Where, row)
		worst = expr.Worse(worst, err)
		if ok {
			out = append(out, fmt.Sprint(row))
		}
	}
	if worst != nil {
		return worst.Error()
	}
	slices.Sort(out)
	return strings.Join(out, "\n")
}

func join(l [][]api.Value, f api.Source, rows [][]api.Value) (out [][]api.Value, worst error) {
	for _, a := range l {
		found := false
		for _, b := range rows {
			wide := slices.Concat(a, b)
			ok, err := expr.Truth(f.On, wide)
			worst = expr.Worse(worst, err)
			if ok {
				found, out = true, append(out, wide)
			}
		}
		if f.Left && !found {
			out = append(out, slices.Concat(a, make([]api.Value, len(rows[0]))))
		}
	}
	return out, worst
}

// wanted tells the ways of P15.3 that there must be for x, which resolve told, and for each of them which values of the column it may tell.
func wanted(t api.Table, x api.Stmt) (col int, fits func(api.Value) bool, l []api.Way) {
	if len(x.From) > 1 {
		return
	}
	e, alone := x.Where, true
	for e.Kind == api.EBinary && e.Op == api.OAnd {
		e, alone = e.Args[0], false
	}
	if e.Kind != api.EBinary || len(e.Args) != 2 {
		return
	}
	op, c, v := e.Op, e.Args[0], e.Args[1]
	if c.Kind == api.EValue {
		c, v = v, c
		op = map[int]int{api.OEq: api.OEq, api.OLt: api.OGt, api.OLe: api.OGe, api.OGt: api.OLt, api.OGe: api.OLe}[op]
	}
	if c.Kind != api.ECol || v.Kind != api.EValue || v.Value == null || !t.Cols[c.At].NotNull && !alone {
		return
	}
	var w api.Way
	switch op {
	case api.OEq:
		w.Eq = []api.Value{v.Value}
	case api.OLt, api.OLe:
		w.Hi, w.HasHi = v.Value, true
	case api.OGt, api.OGe:
		w.Lo, w.HasLo = v.Value, true
	default:
		return
	}
	for n, k := range t.Keys {
		if k.Cols[0] == c.At {
			w.Key = n
			l = append(l, w)
		}
	}
	return c.At, func(o api.Value) bool {
		n := value.Compare(o, v.Value)
		return o != null && (n == 0 || (n < 0) == w.HasHi && (n > 0) == w.HasLo)
	}, l
}
