package change

import (
	"errors"

	"consistory/api"
	"consistory/expr"
)

// worstOf does a step on each of l, and tells the worst error that it told: one behind may be worse than the first one. Nothing that reckoning tells is worse than an overflow: behind one the others needn't be looked at.
func worstOf[T any](l []T, step func(int, T) error) error {
	var worst error
	for n, x := range l {
		worst = expr.Worse(worst, step(n, x))
		if errors.Is(worst, api.ErrOverflow) {
			break
		}
	}
	return worst
}

// in wraps err with the step, or the part of one, that it is of.
func in(part string, err error) error {
	if err == nil {
		return nil
	}
	return &api.Within{Part: part, Err: err}
}
