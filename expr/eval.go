package expr

import (
	"errors"

	"consistory/api"
	"consistory/value"
)

// ground: what an expression is reckoned on: a row, and if it is grouped the rows that aggregates are over, of which that row is the first.
type ground struct {
	row     []api.Value
	grouped bool
	rows    [][]api.Value
}

// eval reckons e. Parts that aren't looked at may be wrong ones: no part is asked ahead of its turn.
func (g *ground) eval(e *api.Expr) (api.Value, error) {
	if least, most := arguments(e); len(e.Args) < least || len(e.Args) > most {
		return api.Value{}, api.ErrForm
	}
	switch e.Kind {
	case api.EValue:
		return sound(e.Value)
	case api.ECol:
		return g.column(e.At)
	case api.EUnary:
		return g.unary(e)
	case api.EBinary:
		return g.binary(e)
	case api.EIn:
		return g.among(e.Args)
	case api.ECase:
		return g.choice(e.Args)
	case api.EAgg:
		if g.grouped {
			return aggregate(e, g.rows)
		}
	}
	return api.Value{}, api.ErrForm
}

// arguments tells how many e may have, so that none is asked for that isn't there.
func arguments(e *api.Expr) (least, most int) {
	switch e.Kind {
	case api.EAgg:
		if e.Op == api.ACount {
			return 0, 1
		}
		fallthrough
	case api.EUnary:
		return 1, 1
	case api.EBinary:
		return 2, 2
	case api.EIn:
		return 2, api.MaxItems + 1
	case api.ECase:
		return 2, 2*api.MaxItems + 1
	}
	return 0, 0
}

// sound tells a value that comes from outside, if it may be: all that is made of such ones may be, too.
func sound(v api.Value) (api.Value, error) {
	if !value.Is(v) {
		return api.Value{}, api.ErrForm
	}
	return v, nil
}

func (g *ground) column(at int) (api.Value, error) {
	switch {
	case g.grouped && len(g.rows) == 0:
		return api.Value{}, nil
	case at < 0 || at >= len(g.row):
		return api.Value{}, api.ErrForm
	}
	return sound(g.row[at])
}

func (g *ground) unary(e *api.Expr) (api.Value, error) {
	v, err := g.eval(&e.Args[0])
	if err != nil {
		return api.Value{}, err
	}
	holds := v.Kind == api.Null
	switch e.Op {
	case api.ONeg:
		return reckoned(value.Do(api.ONeg, v, api.Value{}))
	case api.ONot:
		n, err := truthOf(v)
		return tested(value.Not(n), err)
	case api.ONotNull:
		holds = !holds
		fallthrough
	case api.OIsNull:
		return ofBool(holds), nil
	}
	return api.Value{}, api.ErrForm
}

func (g *ground) binary(e *api.Expr) (api.Value, error) {
	if e.Op == api.OAnd || e.Op == api.OOr {
		return g.logic(e)
	}
	a, err := g.eval(&e.Args[0])
	if err != nil {
		return api.Value{}, err
	}
	b, err := g.eval(&e.Args[1])
	switch {
	case err != nil:
		return api.Value{}, err
	case e.Op >= api.OEq && e.Op <= api.OGe:
		return tested(value.Test(e.Op, a, b))
	case e.Op >= api.OAdd && e.Op <= api.OCat:
		return reckoned(value.Do(e.Op, a, b))
	}
	return api.Value{}, api.ErrForm
}

// logic doesn't look at the second argument where the first one decides.
func (g *ground) logic(e *api.Expr) (api.Value, error) {
	decides, both := api.False, value.And
	if e.Op == api.OOr {
		decides, both = api.True, value.Or
	}
	a, err := g.truth(&e.Args[0])
	if err != nil || a == decides {
		return tested(a, err)
	}
	b, err := g.truth(&e.Args[1])
	return tested(both(a, b), err)
}

// among looks for the first of args among the others, up to the one that it is found at.
func (g *ground) among(args []api.Expr) (api.Value, error) {
	x, err := g.eval(&args[0])
	if err != nil || x.Kind == api.Null {
		return api.Value{}, err
	}
	found := api.False
	for i := 1; i < len(args) && found != api.True; i++ {
		v, err := g.eval(&args[i])
		if err != nil {
			return api.Value{}, err
		}
		n, err := value.Test(api.OEq, x, v)
		if err != nil {
			return tested(n, err)
		}
		found = value.Or(found, n)
	}
	return ofTruth(found), nil
}

// choice looks at conditions up to the first that is True, and at no other value than its.
func (g *ground) choice(args []api.Expr) (api.Value, error) {
	for ; len(args) >= 2; args = args[2:] {
		n, err := g.truth(&args[0])
		switch {
		case err != nil:
			return api.Value{}, err
		case n == api.True:
			return g.eval(&args[1])
		}
	}
	if len(args) == 0 {
		return api.Value{}, nil
	}
	return g.eval(&args[0])
}

// reckoned tells what package value answered. Types that don't fit are none of what resolve told.
func reckoned(v api.Value, err error) (api.Value, error) {
	if errors.Is(err, api.ErrType) {
		return api.Value{}, api.ErrForm
	}
	return v, err
}
