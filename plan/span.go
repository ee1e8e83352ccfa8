package plan

import (
	"consistory/api"
	"consistory/value"
)

// span: the values from lo to hi, both with it; all up to hi, or from lo on, if the other one isn't there.
type span struct {
	lo, hi       api.Value
	hasLo, hasHi bool
}

// test: what is True at most where a column of the first table has a value of the span.
type test struct {
	col int
	span
}

// testOf tells what e tests, if it tests a column (of whatever table). What isn't an EValue has a Value, too: Null.
func testOf(e *api.Expr) (test, bool) {
	if e.Kind != api.EBinary {
		return test{}, false
	}
	op, c, v := e.Op, e.Args[0], e.Args[1]
	if c.Kind == api.EValue {
		op, c, v = turned(op), v, c
	}
	if c.Kind != api.ECol || v.Value.Kind == api.Null {
		return test{}, false
	}
	s := spanOf(op, v.Value)
	return test{c.At, s}, s.hasLo || s.hasHi
}

// turned tells with which operator b stands to a, if a stands to b with op.
func turned(op int) int {
	switch op {
	case api.OLt:
		return api.OGt
	case api.OLe:
		return api.OGe
	case api.OGt:
		return api.OLt
	case api.OGe:
		return api.OLe
	}
	return op
}

// spanOf tells the least span with all that stands to v with op; one without bounds of an operator that sets none. An end is with it, also where op leaves it out.
func spanOf(op int, v api.Value) span {
	var s span
	switch op {
	case api.OEq:
		s.lo, s.hasLo = v, true
		fallthrough
	case api.OLt, api.OLe:
		s.hi, s.hasHi = v, true
	case api.OGt, api.OGe:
		s.lo, s.hasLo = v, true
	}
	return s
}

// and tells what is in both. There may be nothing in it: then lo is above hi.
func (s span) and(o span) span {
	if o.hasLo && (!s.hasLo || value.Compare(o.lo, s.lo) > 0) {
		s.lo, s.hasLo = o.lo, true
	}
	if o.hasHi && (!s.hasHi || value.Compare(o.hi, s.hi) < 0) {
		s.hi, s.hasHi = o.hi, true
	}
	return s
}

// isOne: whether there is just one value in s.
func (s span) isOne() bool {
	return s.hasLo && s.hasHi && value.Compare(s.lo, s.hi) == 0
}
