package expr

import (
	"math/bits"

	"consistory/api"
	"consistory/value"
)

// aggregate reckons an EAgg over rows.
func aggregate(e *api.Expr, rows [][]api.Value) (api.Value, error) {
	if len(e.Args) == 0 {
		return count(len(rows)), nil
	}
	l, err := there(&e.Args[0], rows)
	if err != nil {
		return api.Value{}, err
	}
	side := 1
	switch e.Op {
	case api.ACount:
		return count(len(l)), nil
	case api.ASum:
		return sum(l)
	case api.AMax:
		side = -side
		fallthrough
	case api.AMin:
		return foremost(l, side), nil
	}
	return api.Value{}, api.ErrForm
}

// there tells those values of e on rows that aren't Null. All rows are looked at, whatever errs, since the worst error may be the last one's.
func there(e *api.Expr, rows [][]api.Value) ([]api.Value, error) {
	var l []api.Value
	var worst error
	for _, row := range rows {
		v, err := (&ground{row: row}).eval(e)
		worst = Worse(worst, err)
		if v.Kind != api.Null {
			l = append(l, v)
		}
	}
	return l, worst
}

func count(n int) api.Value { return api.Value{Kind: api.Int, Int: int64(n)} }

// foremost tells the least of l; with a side of -1 the greatest.
func foremost(l []api.Value, side int) api.Value {
	var out api.Value
	for i, v := range l {
		if i == 0 || side*value.Compare(v, out) < 0 {
			out = v
		}
	}
	return out
}

// sum adds in 128 bits, so that only what comes out can be too great, not what is on the way to it.
func sum(l []api.Value) (api.Value, error) {
	if len(l) == 0 {
		return api.Value{}, nil
	}
	var high int64
	var low, carry uint64
	for _, v := range l {
		if v.Kind != api.Int {
			return api.Value{}, api.ErrForm
		}
		low, carry = bits.Add64(low, uint64(v.Int), 0)
		high += v.Int>>63 + int64(carry)
	}
	out := int64(low)
	if high != out>>63 {
		return api.Value{}, api.ErrOverflow
	}
	return api.Value{Kind: api.Int, Int: out}, nil
}
