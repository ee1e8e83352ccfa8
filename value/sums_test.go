package value_test

import (
	"math"
	"math/big"
	"math/rand"
	"strings"
	"testing"

	"consistory/api"
	"consistory/value"
)

var sums = []int{api.OAdd, api.OSub, api.OMul, api.ODiv, api.OMod}

// exactly: what an operator makes of integers, reckoned by numbers of any size.
func exactly(op int, a, b int64) (api.Value, api.Class) {
	x, y, z := big.NewInt(a), big.NewInt(b), new(big.Int)
	switch op {
	case api.OAdd:
		z.Add(x, y)
	case api.OSub:
		z.Sub(x, y)
	case api.OMul:
		z.Mul(x, y)
	case api.ONeg:
		z.Neg(x)
	case api.ODiv, api.OMod:
		if b == 0 {
			return null, api.ErrZero
		}
		if op == api.ODiv {
			z.Quo(x, y)
		} else {
			z.Rem(x, y)
		}
	}
	if !z.IsInt64() {
		return null, api.ErrOverflow
	}
	return integer(z.Int64()), 0
}

// wantDo holds Do against what it must answer.
func wantDo(t *testing.T, op int, a, b, right api.Value, class api.Class) {
	t.Helper()
	if got, err := value.Do(op, a, b); got != right || classOf(t, err) != class {
		t.Errorf("P6.3: Do(%d, %v, %v): %v, %v; want %v, %d", op, a, b, got, err, right, class)
	}
}

func checkExactly(t *testing.T, a, b int64) {
	t.Helper()
	for _, op := range append(sums, api.ONeg) {
		right, class := exactly(op, a, b)
		wantDo(t, op, integer(a), integer(b), right, class)
	}
}

func TestSumsAtTheEdges(t *testing.T) {
	var edges []int64
	for _, n := range []int64{0, math.MinInt64, math.MaxInt64, 1 << 31, 1 << 32, 1 << 62, -1 << 31, -1 << 32, -1 << 62, 3037000499, -3037000500, 7, math.MaxInt64 / 2, math.MaxInt64 / 3} {
		for d := int64(-3); d <= 3; d++ {
			edges = append(edges, n+d) // beyond the end they wrap round, to the other edge
		}
	}
	for _, a := range edges {
		for _, b := range edges {
			checkExactly(t, a, b)
		}
	}
}

func TestSumsByChance(t *testing.T) {
	r := rand.New(rand.NewSource(2))
	for range 50000 {
		checkExactly(t, int64(r.Uint64())>>r.Intn(64), int64(r.Uint64())>>r.Intn(64))
	}
}

func TestSumsThatTheChapterNames(t *testing.T) {
	wantDo(t, api.ODiv, integer(-7), integer(2), integer(-3), 0)
	wantDo(t, api.ODiv, integer(7), integer(-2), integer(-3), 0)
	wantDo(t, api.OMod, integer(-7), integer(2), integer(-1), 0)
	wantDo(t, api.OMod, integer(7), integer(-2), integer(1), 0)
	wantDo(t, api.OMod, integer(math.MinInt64), integer(-1), integer(0), 0)
	wantDo(t, api.ODiv, integer(math.MinInt64), integer(-1), null, api.ErrOverflow)
	wantDo(t, api.ODiv, integer(math.MinInt64), integer(0), null, api.ErrZero)
	wantDo(t, api.OMod, integer(math.MinInt64), integer(0), null, api.ErrZero)
	wantDo(t, api.OMul, integer(math.MinInt64), integer(-1), null, api.ErrOverflow)
	wantDo(t, api.OMul, integer(-1), integer(math.MinInt64), null, api.ErrOverflow)
	wantDo(t, api.OMul, integer(math.MinInt64), integer(1), integer(math.MinInt64), 0)
}

// TestNegLooksAtNoB: neither what it is nor whether it may be.
func TestNegLooksAtNoB(t *testing.T) {
	for _, b := range append(rising(), wrong()...) {
		wantDo(t, api.ONeg, integer(5), b, integer(-5), 0)
		wantDo(t, api.ONeg, integer(0), b, integer(0), 0)
		wantDo(t, api.ONeg, integer(math.MaxInt64), b, integer(-math.MaxInt64), 0)
		wantDo(t, api.ONeg, integer(math.MinInt64), b, null, api.ErrOverflow)
		wantDo(t, api.ONeg, null, b, null, 0)
		wantDo(t, api.ONeg, yes, b, null, api.ErrType)
		wantDo(t, api.ONeg, textOf("5"), b, null, api.ErrType)
		wantDo(t, api.ONeg, api.Value{Kind: 9}, b, null, api.ErrForm)
	}
}

func TestCat(t *testing.T) {
	x := strings.Repeat("x", 100)
	wantDo(t, api.OCat, textOf(""), textOf(""), textOf(""), 0)
	wantDo(t, api.OCat, textOf("ab"), textOf("c"), textOf("abc"), 0)
	wantDo(t, api.OCat, textOf("'"), textOf("\xff"), textOf("'\xff"), 0)
	for n := range api.MaxText + 1 {
		for m := range api.MaxText + 1 {
			right, class := textOf(x[:n]+x[:m]), api.Class(0)
			if n+m > 40 {
				right, class = null, api.ErrOverflow
			}
			wantDo(t, api.OCat, textOf(x[:n]), textOf(x[:m]), right, class)
		}
	}
}

// TestDoOfTypes: Null wins over types that don't fit, and over what can't be reckoned.
func TestDoOfTypes(t *testing.T) {
	few := []api.Value{null, no, yes, integer(0), integer(3), textOf(""), textOf("a")}
	for _, op := range append(sums, api.OCat) {
		kind := api.Int
		if op == api.OCat {
			kind = api.Text
		}
		for _, a := range few {
			for _, b := range few {
				switch {
				case a == null || b == null:
					wantDo(t, op, a, b, null, 0)
				case a.Kind != kind || b.Kind != kind:
					wantDo(t, op, a, b, null, api.ErrType)
				}
			}
		}
	}
}

// TestDoRefuses: ErrForm goes ahead of Null and of all other errors.
func TestDoRefuses(t *testing.T) {
	for _, op := range []int{math.MinInt, -1, 0, api.ONot, api.OIsNull, api.ONotNull, api.OEq, api.ONe, api.OLt, api.OLe, api.OGt, api.OGe, api.OAnd, api.OOr, api.ACount, api.ASum, api.AMin, api.AMax, math.MaxInt} {
		for _, v := range []api.Value{null, yes, integer(1), textOf("x")} {
			wantDo(t, op, v, v, null, api.ErrForm)
			wantDo(t, op, v, null, null, api.ErrForm)
		}
	}
	for _, op := range append(sums, api.OCat) {
		for _, w := range wrong() {
			for _, v := range []api.Value{null, yes, integer(0), textOf("x"), w} {
				wantDo(t, op, v, w, null, api.ErrForm)
				wantDo(t, op, w, v, null, api.ErrForm)
			}
		}
	}
	for _, w := range wrong() {
		wantDo(t, api.ONeg, w, integer(1), null, api.ErrForm)
	}
}
