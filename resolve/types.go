package resolve

import (
	"cmp"

	"consistory/api"
)

// operator tells the type of one whose arguments are told.
func operator(e *api.Expr) error {
	kind, ok := typeOf(e)
	if !ok {
		return api.ErrType
	}
	e.Type = kind
	return nil
}

// typeOf tells the type of an operator, and whether its arguments fit.
func typeOf(e *api.Expr) (int, bool) {
	args := e.Args
	switch {
	case takesInts(e.Op):
		return common(api.Int, args)
	case e.Op == api.OCat:
		return common(api.Text, args)
	case e.Op == api.ONot, e.Op == api.OAnd, e.Op == api.OOr:
		return common(api.Bool, args)
	case e.Op == api.ACount:
		return api.Int, true
	case e.Kind == api.ECase:
		conditions, values := parted(args)
		if _, ok := common(api.Bool, conditions); !ok {
			return 0, false
		}
		args = values
		fallthrough
	case e.Op == api.AMin, e.Op == api.AMax:
		return common(0, args)
	}
	// Left are tests: those of one argument take any, those of more ask all to be of one type.
	_, ok := common(0, args)
	return api.Bool, ok
}

func takesInts(op int) bool {
	return op == api.ONeg || op >= api.OAdd && op <= api.OMod || op == api.ASum
}

// parted tells the conditions and the values of a CASE; the last one, if their number is odd, is a value.
func parted(args []api.Expr) (conditions, values []api.Expr) {
	for i, e := range args {
		if i%2 == 0 && i+1 < len(args) {
			conditions = append(conditions, e)
		} else {
			values = append(values, e)
		}
	}
	return conditions, values
}

// common tells the type that all of l have, and whether they have one. If kind is 0, the first that isn't a NULL tells it.
func common(kind int, l []api.Expr) (int, bool) {
	for _, e := range l {
		kind = cmp.Or(kind, e.Type)
		if !fits(e, kind) {
			return 0, false
		}
	}
	return kind, true
}

// fits: a NULL fits everywhere.
func fits(e api.Expr, kind int) bool { return e.Type == 0 || e.Type == kind }
