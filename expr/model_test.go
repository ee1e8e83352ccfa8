package expr_test

import (
	"fmt"
	"math/big"
	"slices"
	"strings"

	"consistory/api"
	"consistory/value"
)

// The chapter a second time: values are written as a statement has them, classes as `class 7`; numbers are of any size until they are told, truths stand in a row, FALSE, NULL, TRUE.

const unknown = "NULL"

// model: what is looked at, as it is looked at: the row (nil: there is none), and the rows of aggregates.
type model struct {
	row  []api.Value
	none bool
	rows [][]api.Value
	over bool
}

func isClass(s string) bool { return strings.HasPrefix(s, "class") }

func (m model) eval(e api.Expr) string {
	switch e.Kind {
	case api.EValue:
		return value.Print(e.Value)
	case api.ECol:
		if m.none {
			return unknown
		}
		if e.At >= len(m.row) {
			return form
		}
		return value.Print(m.row[e.At])
	case api.EIn:
		return m.in(e.Args)
	case api.ECase:
		return m.choice(e.Args)
	case api.EAgg:
		if !m.over {
			return form
		}
		return m.aggregate(e)
	}
	if e.Op == api.OAnd || e.Op == api.OOr {
		return m.logic(e)
	}
	var args []string
	for _, a := range e.Args {
		s := m.eval(a)
		if isClass(s) {
			return s
		}
		args = append(args, s)
	}
	return operator(e.Op, args)
}

// ranks: of truths, from the least one up.
var ranks = []string{"FALSE", unknown, "TRUE"}

func rank(s string) int { return slices.Index(ranks, s) }

func (m model) logic(e api.Expr) string {
	end := map[int]int{api.OAnd: 0, api.OOr: 2}[e.Op]
	a := m.eval(e.Args[0])
	if isClass(a) || rank(a) == end {
		return a
	}
	b := m.eval(e.Args[1])
	if isClass(b) {
		return b
	}
	if end == 0 {
		return ranks[min(rank(a), rank(b))]
	}
	return ranks[max(rank(a), rank(b))]
}

// operator: of arguments that don't err.
func operator(op int, args []string) string {
	switch op {
	case api.ONot:
		return ranks[2-rank(args[0])]
	case api.OIsNull:
		return ofBool(args[0] == unknown)
	case api.ONotNull:
		return ofBool(args[0] != unknown)
	}
	if slices.Contains(args, unknown) {
		return unknown
	}
	switch {
	case op == api.ONeg:
		return number(new(big.Int).Neg(parsed(args[0])))
	case op == api.OCat:
		return joined(args[0], args[1])
	case op >= api.OAdd:
		return reckon(op, parsed(args[0]), parsed(args[1]))
	}
	order := compare(args[0], args[1])
	return ofBool(map[int]bool{api.OEq: order == 0, api.ONe: order != 0, api.OLt: order < 0, api.OLe: order <= 0, api.OGt: order > 0, api.OGe: order >= 0}[op])
}

func ofBool(b bool) string { return strings.ToUpper(fmt.Sprint(b)) }

func parsed(s string) *big.Int {
	n, ok := new(big.Int).SetString(s, 10)
	if !ok {
		panic("no number: " + s)
	}
	return n
}

func number(n *big.Int) string {
	if !n.IsInt64() {
		return overflow
	}
	return n.String()
}

func reckon(op int, a, b *big.Int) string {
	out := new(big.Int)
	if op >= api.ODiv && b.Sign() == 0 {
		return zero
	}
	switch op {
	case api.OAdd:
		out.Add(a, b)
	case api.OSub:
		out.Sub(a, b)
	case api.OMul:
		out.Mul(a, b)
	case api.ODiv:
		out.Quo(a, b)
	case api.OMod:
		out.Rem(a, b)
	}
	return number(out)
}

func unquoted(s string) string { return strings.ReplaceAll(s[1:len(s)-1], "''", "'") }

func joined(a, b string) string {
	if len(unquoted(a))+len(unquoted(b)) > api.MaxText {
		return overflow
	}
	return a[:len(a)-1] + b[1:]
}

// compare: of two of one type, none of them NULL.
func compare(a, b string) int {
	switch {
	case a[0] == '\'':
		return strings.Compare(unquoted(a), unquoted(b))
	case rank(a) >= 0:
		return rank(a) - rank(b)
	}
	return parsed(a).Cmp(parsed(b))
}

func (m model) in(args []api.Expr) string {
	x := m.eval(args[0])
	if isClass(x) || x == unknown {
		return x
	}
	out := "FALSE"
	for _, a := range args[1:] {
		switch s := m.eval(a); {
		case isClass(s):
			return s
		case s == x:
			return "TRUE"
		case s == unknown:
			out = unknown
		}
	}
	return out
}

func (m model) choice(args []api.Expr) string {
	for i := 0; i+1 < len(args); i += 2 {
		if s := m.eval(args[i]); isClass(s) {
			return s
		} else if s == "TRUE" {
			return m.eval(args[i+1])
		}
	}
	if len(args)%2 == 1 {
		return m.eval(args[len(args)-1])
	}
	return unknown
}

func (m model) aggregate(e api.Expr) string {
	if len(e.Args) == 0 {
		return fmt.Sprint(len(m.rows))
	}
	var all []string
	for _, row := range m.rows {
		all = append(all, model{row: row}.eval(e.Args[0]))
	}
	for _, c := range []string{overflow, zero, form} {
		if slices.Contains(all, c) {
			return c
		}
	}
	all = slices.DeleteFunc(all, func(s string) bool { return s == unknown })
	switch {
	case e.Op == api.ACount:
		return fmt.Sprint(len(all))
	case len(all) == 0:
		return unknown
	case e.Op == api.AMin:
		return slices.MinFunc(all, compare)
	case e.Op == api.AMax:
		return slices.MaxFunc(all, compare)
	}
	out := new(big.Int)
	for _, s := range all {
		out.Add(out, parsed(s))
	}
	return number(out)
}

func modelEval(e api.Expr, row []api.Value) string { return model{row: row}.eval(e) }

func modelTruth(e api.Expr, row []api.Value) string {
	if e.Kind == 0 {
		return "true"
	}
	s := modelEval(e, row)
	if isClass(s) {
		return s
	}
	return fmt.Sprint(s == "TRUE")
}

func modelGroup(e api.Expr, rows [][]api.Value) string {
	m := model{rows: rows, over: true, none: len(rows) == 0}
	if !m.none {
		m.row = rows[0]
	}
	return m.eval(e)
}
