package expr

import (
	"consistory/api"
)

// truth reckons a part that must be a truth.
func (g *ground) truth(e *api.Expr) (int, error) {
	v, err := g.eval(e)
	if err != nil {
		return 0, err
	}
	return truthOf(v)
}

func truthOf(v api.Value) (int, error) {
	switch v.Kind {
	case api.Null:
		return api.Unknown, nil
	case api.Bool:
		return int(v.Int), nil
	}
	return 0, api.ErrForm
}

// ofTruth: Unknown has no value but Null.
func ofTruth(n int) api.Value {
	if n == api.Unknown {
		return api.Value{}
	}
	return api.Value{Kind: api.Bool, Int: int64(n)}
}

func ofBool(holds bool) api.Value {
	if holds {
		return ofTruth(api.True)
	}
	return ofTruth(api.False)
}

// tested tells a truth as a value, where there is no error.
func tested(n int, err error) (api.Value, error) {
	if err != nil {
		return reckoned(api.Value{}, err)
	}
	return ofTruth(n), nil
}
