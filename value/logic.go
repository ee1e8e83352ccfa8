package value

import (
	"consistory/api"
)

// Test: whether a stands to b as op asks.
func Test(op int, a, b api.Value) (int, error) {
	switch {
	case op < api.OEq || op > api.OGe || !Is(a) || !Is(b):
		return 0, api.ErrForm
	case a.Kind == api.Null || b.Kind == api.Null:
		return api.Unknown, nil
	case a.Kind != b.Kind:
		return 0, api.ErrType
	case holds(op, compareSound(a, b)):
		return api.True, nil
	}
	return api.False, nil
}

// holds: whether op asks for that order. What is greater the one way is less the other way; what is at most as great is less, or else equal.
func holds(op, order int) bool {
	switch op {
	case api.OGt:
		order = -order
		fallthrough
	case api.OLt:
		return order < 0
	case api.OGe:
		order = -order
		fallthrough
	case api.OLe:
		if order < 0 {
			return true
		}
		fallthrough
	case api.OEq:
		return order == 0
	}
	return order != 0
}

// And: False, if one is; else Unknown, if one is.
func And(a, b int) int {
	switch {
	case !isTruth(a) || !isTruth(b):
		return 0
	case a == api.False || b == api.False:
		return api.False
	case a == api.Unknown || b == api.Unknown:
		return api.Unknown
	}
	return api.True
}

// Or: True, if one is; else Unknown, if one is.
func Or(a, b int) int {
	if !isTruth(a) || !isTruth(b) {
		return 0
	}
	return Not(And(Not(a), Not(b)))
}

// Not: the other truth; of Unknown Unknown.
func Not(a int) int {
	switch a {
	case api.False:
		return api.True
	case api.Unknown:
		return api.Unknown
	}
	return api.False
}

func isTruth(a int) bool { return a == api.False || a == api.True || a == api.Unknown }
