package exec

import (
	"errors"

	"consistory/api"
	"consistory/expr"
)

// worstOf does a step on each of l, and tells the worst error that it told: one behind may be worse than the first one. Nothing that reckoning tells is worse than an overflow: behind one the others needn't be looked at.
func worstOf[T any](l []T, step func(T) error) error {
	var worst error
	for _, x := range l {
		worst = expr.Worse(worst, step(x))
		if errors.Is(worst, api.ErrOverflow) {
			break
		}
	}
	return worst
}

// kept tells those of l that fit; nothing, if any errs.
func kept[T any](l []T, fits func(T) (bool, error)) ([]T, error) {
	var out []T
	err := worstOf(l, func(x T) error {
		ok, err := fits(x)
		if ok {
			out = append(out, x)
		}
		return err
	})
	if err != nil {
		return nil, err
	}
	return out, nil
}

// in wraps err with the part of a question that it is of.
func in(part string, err error) error {
	if err == nil {
		return nil
	}
	return &api.Within{Part: part, Err: err}
}
