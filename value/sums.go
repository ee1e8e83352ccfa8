package value

import (
	"math"

	"consistory/api"
)

// Do: what op makes of a and b.
func Do(op int, a, b api.Value) (api.Value, error) {
	if op == api.ONeg {
		b = a // whatever b is, it isn't looked at
	}
	kind := operands(op)
	switch {
	case kind == api.Null || !Is(a) || !Is(b):
		return api.Value{}, api.ErrForm
	case a.Kind == api.Null || b.Kind == api.Null:
		return api.Value{}, nil
	case a.Kind != kind || b.Kind != kind:
		return api.Value{}, api.ErrType
	case kind == api.Text:
		return joined(a.Text, b.Text)
	}
	n, err := reckoned(op, a.Int, b.Int)
	if err != nil {
		return api.Value{}, err
	}
	return api.Value{Kind: api.Int, Int: n}, nil
}

// operands tells the kind of values that op is about; Null, if it is no operator of Do.
func operands(op int) int {
	switch op {
	case api.ONeg, api.OAdd, api.OSub, api.OMul, api.ODiv, api.OMod:
		return api.Int
	case api.OCat:
		return api.Text
	}
	return api.Null
}

func joined(a, b string) (api.Value, error) {
	if len(a)+len(b) > api.MaxText {
		return api.Value{}, api.ErrOverflow
	}
	return api.Value{Kind: api.Text, Text: a + b}, nil
}

// reckoned tells what op makes of integers; of ONeg what b is with the other sign. Whether the result has room is seen by what the wrap-round does to it.
func reckoned(op int, a, b int64) (int64, error) {
	n, fits := int64(0), true
	switch op {
	case api.ONeg:
		a = 0
		fallthrough
	case api.OSub:
		n = a - b
		fits = (n < a) == (b > 0)
	case api.OAdd:
		n = a + b
		fits = (n > a) == (b > 0)
	case api.OMul:
		n = a * b
		fits = a == 0 || n/a == b && !isBeyond(b, a)
	case api.ODiv, api.OMod:
		return divided(op, a, b)
	}
	if !fits {
		return 0, api.ErrOverflow
	}
	return n, nil
}

// divided tells the quotient or what is left, which both want a b that isn't 0; what is left always has room.
func divided(op int, a, b int64) (int64, error) {
	switch {
	case b == 0:
		return 0, api.ErrZero
	case op == api.OMod:
		return a % b, nil
	case isBeyond(a, b):
		return 0, api.ErrOverflow
	}
	return a / b, nil
}

// isBeyond: whether a / b is 2^63, the one quotient without room.
func isBeyond(a, b int64) bool { return a == math.MinInt64 && b == -1 }
