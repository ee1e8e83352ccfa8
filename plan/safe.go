package plan

import (
	"errors"
	"math"
	"strings"

	"consistory/api"
	"consistory/expr"
	"consistory/value"
)

// testsOf tells the tests in x's Where that rows of its first table, of these columns, may be left out by. It settles parts of x.
//
// On a row for which a test is False nothing behind it is looked at; so nothing may go wrong ahead of it, nor in On. If its column may be NULL, the test may be Unknown, and what is behind it is looked at, too: so nothing may go wrong there either. Several tests together leave out no row that none of them leaves out by itself.
func testsOf(cols []api.Column, x *api.Stmt) []test {
	for i := range x.From {
		if !settle(&x.From[i].On) {
			return nil
		}
	}
	parts := conjuncts(nil, &x.Where)
	calm := 0
	for calm < len(parts) && settle(parts[calm]) {
		calm++
	}
	var out []test
	for _, e := range parts[:calm] {
		t, ok := testOf(e)
		if ok && t.col < len(cols) && (cols[t.col].NotNull || calm == len(parts)) {
			out = append(out, t)
		}
	}
	return out
}

// conjuncts puts the parts of a row of ANDs behind l, in the order in which they are looked at, which is the same whatever brackets there are.
func conjuncts(l []*api.Expr, e *api.Expr) []*api.Expr {
	if e.Kind == api.EBinary && e.Op == api.OAnd {
		return conjuncts(conjuncts(l, &e.Args[0]), &e.Args[1])
	}
	return append(l, e)
}

// settle puts values in the stead of those parts of e that are the same on every row, and tells whether e goes wrong on none. A part that always goes wrong stays as it is: it may be one that isn't looked at.
func settle(e *api.Expr) bool {
	if len(e.Args) == 0 {
		return true
	}
	calm, fixed := true, true
	for i := range e.Args {
		calm = settle(&e.Args[i]) && calm
		fixed = fixed && e.Args[i].Kind == api.EValue
	}
	if !fixed {
		return calm && !mayErr(e)
	}
	v, err := expr.Eval(*e, nil)
	if err == nil {
		*e = api.Expr{Kind: api.EValue, Value: v}
	}
	return err == nil
}

// mayErr: whether e, an operator, goes wrong on values that its arguments may have. Values of other types than it takes are tried, too; of these, and of operators that reckon nothing, package value tells another class.
func mayErr(e *api.Expr) bool {
	for _, a := range mayBe(&e.Args[0]) {
		for _, b := range mayBe(&e.Args[len(e.Args)-1]) {
			_, err := value.Do(e.Op, a, b)
			if errors.Is(err, api.ErrOverflow) || errors.Is(err, api.ErrZero) {
				return true
			}
		}
	}
	return false
}

// mayBe tells of all values that e may have enough to try: an operator that goes wrong on any goes wrong on some of these.
func mayBe(e *api.Expr) []api.Value {
	if e.Kind == api.EValue {
		return []api.Value{e.Value}
	}
	return []api.Value{
		{Kind: api.Int, Int: math.MinInt64}, {Kind: api.Int}, {Kind: api.Int, Int: math.MaxInt64},
		{Kind: api.Text, Text: strings.Repeat("x", api.MaxText)},
	}
}
