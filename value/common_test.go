package value_test

import (
	"errors"
	"math"
	"math/rand"
	"strings"
	"testing"

	"consistory/api"
)

var (
	null = api.Value{}
	no   = api.Value{Kind: api.Bool}
	yes  = api.Value{Kind: api.Bool, Int: 1}
)

func integer(n int64) api.Value      { return api.Value{Kind: api.Int, Int: n} }
func textOf(s string) api.Value      { return api.Value{Kind: api.Text, Text: s} }
func row(l ...api.Value) []api.Value { return l }

// classes: all that there are, of which an error has just one.
var classes = []api.Class{
	api.ErrSyntax, api.ErrLimit, api.ErrName, api.ErrType, api.ErrConstraint, api.ErrOverflow, api.ErrZero,
	api.ErrForm, api.ErrSum, api.ErrShort, api.ErrFile, api.ErrFull, api.ErrDown, api.ErrPlace,
	api.ErrNode, api.ErrLead, api.ErrWait, api.ErrBusy, api.ErrLine,
}

// classOf tells an error's class (0: none), and that it has no other one.
func classOf(t *testing.T, err error) api.Class {
	t.Helper()
	if err == nil {
		return 0
	}
	var c api.Class
	if !errors.As(err, &c) {
		t.Fatalf("an error without a class: %v", err)
	}
	for _, other := range classes {
		if errors.Is(err, other) != (other == c) {
			t.Fatalf("%v: of class %d, and of %d", err, c, other)
		}
	}
	return c
}

// rising: values that may be, each one ahead of the next.
func rising() []api.Value {
	longest := strings.Repeat("z", api.MaxText)
	return []api.Value{
		null, no, yes,
		integer(math.MinInt64), integer(math.MinInt64 + 1), integer(-1 << 32), integer(-257), integer(-256), integer(-2), integer(-1),
		integer(0), integer(1), integer(2), integer(127), integer(128), integer(255), integer(256), integer(1 << 32), integer(math.MaxInt64 - 1), integer(math.MaxInt64),
		textOf(""), textOf("\x01"), textOf("\x01\x01"), textOf(" "), textOf("'"), textOf("10"), textOf("9"), textOf("A"), textOf("Z"), textOf("a"), textOf("a\x01"),
		textOf("aa"), textOf("ab"), textOf("b"), textOf(longest[1:]), textOf(longest), textOf("é"), textOf("\xff"), textOf("\xff\xff"),
	}
}

// wrong: values that may not be, of each kind, and of kinds that aren't.
func wrong() []api.Value {
	return []api.Value{
		{Int: 1}, {Int: -1}, {Text: "x"}, {Int: 1, Text: "x"},
		{Kind: api.Bool, Int: 2}, {Kind: api.Bool, Int: -1}, {Kind: api.Bool, Int: 256}, {Kind: api.Bool, Int: 1, Text: "x"},
		{Kind: api.Int, Text: "x"}, {Kind: api.Int, Int: 3, Text: "x"},
		{Kind: api.Text, Int: 1}, {Kind: api.Text, Int: 1, Text: "x"}, textOf("\x00"), textOf("ab\x00"), textOf(strings.Repeat("z", api.MaxText+1)),
		{Kind: 4}, {Kind: -1}, {Kind: 256}, {Kind: 258, Int: 1}, {Kind: math.MaxInt}, {Kind: math.MinInt},
	}
}

// chanceValue: a value that may be; with few others, so that rows are often alike at first.
func chanceValue(r *rand.Rand) api.Value {
	switch r.Intn(5) {
	case 0:
		return null
	case 1:
		return api.Value{Kind: api.Bool, Int: int64(r.Intn(2))}
	case 2:
		return integer(int64(r.Intn(5)) - 2)
	case 3:
		return integer(int64(r.Uint64()) >> r.Intn(64))
	}
	b := make([]byte, r.Intn(4))
	for i := range b {
		b[i] = "\x01\x02\x03a\xff"[r.Intn(5)]
	}
	return textOf(string(b))
}

func chanceRow(r *rand.Rand, n int) []api.Value {
	l := make([]api.Value, n)
	for i := range l {
		l[i] = chanceValue(r)
	}
	return l
}
