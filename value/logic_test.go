package value_test

import (
	"cmp"
	"math"
	"testing"

	"consistory/api"
	"consistory/value"
)

// asks: what each operator of Test asks of an order, by its words.
func asks(op, order int) bool {
	return map[int]bool{
		api.OEq: order == 0, api.ONe: order != 0, api.OLt: order < 0, api.OLe: order <= 0, api.OGt: order > 0, api.OGe: order >= 0,
	}[op]
}

var tests = []int{api.OEq, api.ONe, api.OLt, api.OLe, api.OGt, api.OGe}

// modelTest: Test of values that may be, at places i and j of rising.
func modelTest(op, i, j int, a, b api.Value) (int, api.Class) {
	switch {
	case a.Kind == api.Null || b.Kind == api.Null:
		return api.Unknown, 0
	case a.Kind != b.Kind:
		return 0, api.ErrType
	case asks(op, cmp.Compare(i, j)):
		return api.True, 0
	}
	return api.False, 0
}

func TestTest(t *testing.T) {
	l := rising()
	for _, op := range tests {
		for i, a := range l {
			for j, b := range l {
				right, class := modelTest(op, i, j, a, b)
				got, err := value.Test(op, a, b)
				if got != right || classOf(t, err) != class {
					t.Errorf("P6.2: Test(%d, %v, %v): %d, %v", op, a, b, got, err)
				}
			}
		}
	}
	if got, err := value.Test(api.OEq, null, integer(1)); got != api.Unknown || err != nil {
		t.Errorf("P6.2: the example: %d, %v", got, err)
	}
}

// wantForm fails if Test doesn't answer ErrForm, and 0 beside it.
func wantForm(t *testing.T, op int, a, b api.Value) {
	t.Helper()
	if got, err := value.Test(op, a, b); got != 0 || classOf(t, err) != api.ErrForm {
		t.Errorf("P6.2: Test(%d, %v, %v): %d, %v", op, a, b, got, err)
	}
}

// TestTestRefuses: ErrForm goes ahead of Unknown and of ErrType.
func TestTestRefuses(t *testing.T) {
	for _, op := range []int{math.MinInt, -1, 0, api.ONeg, api.ONot, api.OIsNull, api.ONotNull, api.OAdd, api.OCat, api.OAnd, api.OOr, api.ACount, api.AMax, math.MaxInt} {
		wantForm(t, op, integer(1), integer(1))
		wantForm(t, op, null, integer(1))
		wantForm(t, op, integer(1), textOf("x"))
	}
	for _, op := range tests {
		for _, w := range wrong() {
			for _, v := range []api.Value{null, yes, integer(1), textOf("x"), w} {
				wantForm(t, op, v, w)
				wantForm(t, op, w, v)
			}
		}
	}
}

func TestLogic(t *testing.T) {
	const n, y, u = api.False, api.True, api.Unknown
	for _, c := range []struct{ a, b, and, or int }{
		{n, n, n, n}, {n, y, n, y}, {n, u, n, u},
		{y, n, n, y}, {y, y, y, y}, {y, u, u, y},
		{u, n, n, u}, {u, y, u, y}, {u, u, u, u},
	} {
		if and, or := value.And(c.a, c.b), value.Or(c.a, c.b); and != c.and || or != c.or {
			t.Errorf("P6.2: %d, %d: And %d, Or %d", c.a, c.b, and, or)
		}
	}
	if value.Not(n) != y || value.Not(y) != n || value.Not(u) != u {
		t.Errorf("P6.2: Not: %d, %d, %d", value.Not(n), value.Not(y), value.Not(u))
	}
}

func TestLogicOfWhatIsNoTruth(t *testing.T) {
	none := []int{-1, -2, 3, 4, 255, 256, math.MinInt, math.MaxInt}
	for _, a := range none {
		if got := value.Not(a); got != 0 {
			t.Errorf("P6.2: Not(%d): %d", a, got)
		}
		for _, b := range append(none, api.False, api.True, api.Unknown) {
			if l := [4]int{value.And(a, b), value.And(b, a), value.Or(a, b), value.Or(b, a)}; l != [4]int{} {
				t.Errorf("P6.2: And, Or of %d and %d: %v", a, b, l)
			}
		}
	}
}
