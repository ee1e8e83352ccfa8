package tree

import (
	"cmp"

	"consistory/api"
	"consistory/value"
)

// shape: between what an expression's operator, and how many arguments it has, must lie.
type shape struct{ leastOp, mostOp, least, most int }

// shapeOf: kinds that have no operator, or no arguments, have zeros there.
func shapeOf(e *api.Expr) shape {
	switch e.Kind {
	case api.EUnary:
		return shape{api.ONeg, api.ONotNull, 1, 1}
	case api.EBinary:
		return shape{api.OEq, api.OOr, 2, 2}
	case api.EIn:
		return shape{0, 0, 2, api.MaxItems + 1}
	case api.ECase:
		return shape{0, 0, 2, 2*api.MaxItems + 1}
	case api.EAgg:
		if e.Op == api.ACount {
			return shape{api.ACount, api.ACount, 0, 1}
		}
		return shape{api.ASum, api.AMax, 1, 1}
	}
	return shape{}
}

// exprFault tells what is wrong of e; nil, if it may be.
func exprFault(e *api.Expr) error {
	s := shapeOf(e)
	err := cmp.Or(
		of("kind", must(e.Kind >= api.EValue && e.Kind <= api.EAgg)),
		of("operator", must(e.Op >= s.leastOp && e.Op <= s.mostOp)),
		leafFault(e),
		of("what resolve tells", must(e.At == 0 && e.Type == 0)),
	)
	if err != nil {
		return err
	}
	return of("arguments", each(e.Args, s.least, s.most, exprFault))
}

// leafFault: values have a value, columns have names; no other kind has any.
func leafFault(e *api.Expr) error {
	values, names := must(e.Value == api.Value{}), must(e.Table == "" && e.Name == "")
	switch e.Kind {
	case api.EValue:
		values = must(value.Is(e.Value))
	case api.ECol:
		names = cmp.Or(nameFault(&e.Name), noneOrName(&e.Table))
	}
	return cmp.Or(of("value", values), of("name", names))
}
