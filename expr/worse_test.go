package expr_test

import (
	"errors"
	"math"
	"testing"

	"consistory/api"
	"consistory/expr"
)

// odd: an error of no class that can't be held against another one by ==.
type odd []int

func (odd) Error() string { return "odd" }

// either: an error that says by As what class it is of.
type either struct{ class api.Class }

func (either) Error() string { return "either" }

func (e either) As(target any) bool {
	c, ok := target.(*api.Class)
	if ok {
		*c = e.class
	}
	return ok
}

// wraps: c as it is, and wrapped in all ways, each time a new error.
func wraps(c api.Class) []error {
	return []error{
		c, &api.Within{Part: "x", Err: c}, &api.Placed{At: int(c), Err: c}, &api.Within{Part: "y", Err: &api.Placed{At: 70 - int(c), Err: &api.Within{Part: "z", Err: c}}},
		errors.Join(c), errors.Join(errors.New("plain"), &api.Placed{Err: c}), either{c},
	}
}

// which tells the one of two errors that a third is.
func which(got, a, b error) string {
	switch {
	case got == nil:
		return "none"
	case got == a:
		return "first"
	case got == b:
		return "second"
	}
	return "another"
}

func TestWorse(t *testing.T) {
	all := append([]api.Class{math.MinInt, -1, 0, 8, 19, math.MaxInt - 1, math.MaxInt}, classes...)
	for _, c := range all {
		for _, d := range all {
			for n, a := range wraps(c) {
				for m, b := range wraps(d) {
					want := "first"
					if d < c {
						want = "second"
					}
					if got := which(expr.Worse(a, b), a, b); got != want {
						t.Errorf("P14.4: %d (%d) and %d (%d): the %s one", c, n, d, m, got)
					}
				}
			}
		}
	}
}

func TestWorseOfNone(t *testing.T) {
	if err := expr.Worse(nil, nil); err != nil {
		t.Errorf("P14.4: none and none: %v", err)
	}
	for _, c := range classes {
		for _, a := range append(wraps(c), errors.New("plain")) {
			if got := which(expr.Worse(a, nil), a, nil); got != "first" {
				t.Errorf("P14.4: %v and none: the %s one", a, got)
			}
			if got := which(expr.Worse(nil, a), nil, a); got != "second" {
				t.Errorf("P14.4: none and %v: the %s one", a, got)
			}
		}
	}
}

// TestWorseWithoutAClass: it counts as above all, the greatest number included.
func TestWorseWithoutAClass(t *testing.T) {
	for _, plain := range []error{errors.New("plain"), &api.Within{Part: "x", Err: errors.New("plain")}, &api.Placed{At: 1}, errors.Join(errors.New("plain"), errors.New("other"))} {
		for _, c := range append([]api.Class{math.MinInt, 0, math.MaxInt}, classes...) {
			for _, a := range wraps(c) {
				if got := which(expr.Worse(a, plain), a, plain); got != "first" {
					t.Errorf("P14.4: %d and one without: the %s one", c, got)
				}
				if got := which(expr.Worse(plain, a), plain, a); got != "second" {
					t.Errorf("P14.4: one without and %d: the %s one", c, got)
				}
			}
		}
		other := errors.New("plain")
		if got := which(expr.Worse(plain, other), plain, other); got != "first" {
			t.Errorf("P14.4: two without: the %s one", got)
		}
	}
	if got, ok := expr.Worse(odd{1}, odd{2}).(odd); !ok || got[0] != 1 {
		t.Errorf("P14.4: %v", got)
	}
	if got := expr.Worse(odd{1}, api.ErrZero); got != error(api.ErrZero) {
		t.Errorf("P14.4: %v", got)
	}
}

// TestWorseDeep: through as many wraps as the document's bound.
func TestWorseDeep(t *testing.T) {
	var a, b error = api.ErrZero, api.ErrOverflow
	for range 1<<16 - 2 {
		a, b = &api.Within{Err: a}, &api.Within{Err: b}
	}
	if expr.Worse(a, b) != b || expr.Worse(b, a) != b || expr.Worse(a, api.ErrLine) != a || expr.Worse(a, api.ErrZero) != a {
		t.Error("P14.4: deep wraps")
	}
}
