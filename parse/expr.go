package parse

import (
	"consistory/api"
)

// Sorts of rows that operators of two make, the loosest ahead; none: of what is no operator.
const (
	none = iota
	alternatives
	conditions
	comparisons
	sums
	products
)

// operator tells which one a word or a sign is between two operands, and what sort of row it makes.
func operator(mark string) (op, sort int) {
	switch mark {
	case "OR":
		return api.OOr, alternatives
	case "AND":
		return api.OAnd, conditions
	case "=":
		return api.OEq, comparisons
	case "<>":
		return api.ONe, comparisons
	case "<":
		return api.OLt, comparisons
	case "<=":
		return api.OLe, comparisons
	case ">":
		return api.OGt, comparisons
	case ">=":
		return api.OGe, comparisons
	case "+":
		return api.OAdd, sums
	case "-":
		return api.OSub, sums
	case "||":
		return api.OCat, sums
	case "*":
		return api.OMul, products
	case "/":
		return api.ODiv, products
	case "%":
		return api.OMod, products
	}
	return 0, none
}

// part counts e, a new part of the statement.
func (r *reader) part(e api.Expr) api.Expr {
	r.parts++
	return e
}

func (r *reader) node(kind, op int, args ...api.Expr) api.Expr {
	return r.part(api.Expr{Kind: kind, Op: op, Args: args})
}

// row reads operands with operators of that sort between; it stands to the left.
func (r *reader) row(sort int, operand func() api.Expr) api.Expr {
	e := operand()
	for {
		op, found := operator(r.mark())
		if found != sort {
			return e
		}
		r.pass()
		e = r.node(api.EBinary, op, e, operand())
	}
}

func (r *reader) expr() api.Expr { return r.row(alternatives, r.and) }

func (r *reader) and() api.Expr { return r.row(conditions, r.not) }

func (r *reader) sum() api.Expr { return r.row(sums, r.product) }

func (r *reader) product() api.Expr { return r.row(products, r.factor) }

// exprs reads some in brackets.
func (r *reader) exprs() []api.Expr {
	var l []api.Expr
	r.brackets(func() { l = list(r, r.expr) })
	return l
}

func (r *reader) not() api.Expr {
	if r.mark() == "NOT" {
		return r.prefix(api.ONot, r.not)
	}
	return r.test()
}

// prefix reads an operator that stands ahead of its operand; it is open as long as that.
func (r *reader) prefix(op int, operand func() api.Expr) api.Expr {
	var e api.Expr
	r.nested(func() { e = r.node(api.EUnary, op, operand()) })
	return e
}

// test reads a sum and what is asked of it, once at most.
func (r *reader) test() api.Expr {
	ahead := r.parts
	x := r.sum()
	size := r.parts - ahead
	if op, sort := operator(r.mark()); sort == comparisons {
		r.pass()
		return r.node(api.EBinary, op, x, r.sum())
	}
	switch r.mark() {
	case "IS":
		r.pass()
		return r.nullness(x)
	case "NOT":
		r.pass()
		return r.node(api.EUnary, api.ONot, r.among(x, size))
	case "IN", "BETWEEN":
		return r.among(x, size)
	}
	return x
}

func (r *reader) nullness(x api.Expr) api.Expr {
	op := api.OIsNull
	if r.take("NOT") {
		op = api.ONotNull
	}
	r.must("NULL")
	return r.node(api.EUnary, op, x)
}

// among reads what x is looked for among; x is of so many parts.
func (r *reader) among(x api.Expr, size int) api.Expr {
	switch r.mark() {
	case "IN":
		r.pass()
		return r.node(api.EIn, 0, append([]api.Expr{x}, r.exprs()...)...)
	case "BETWEEN":
		r.double(size)
		return r.between(x)
	}
	r.fail(api.ErrSyntax)
	return api.Expr{}
}

func (r *reader) between(x api.Expr) api.Expr {
	r.must("BETWEEN")
	from := r.node(api.EBinary, api.OGe, x, r.sum())
	r.must("AND")
	to := r.node(api.EBinary, api.OLe, x, r.sum())
	return r.node(api.EBinary, api.OAnd, from, to)
}

// mostParts: as many as fill the 2^31 - 1 bytes that an answer may have: a part has 120.
const mostParts = (1<<31 - 1) / 120

// double counts the parts of what stands at two places once more. A BETWEEN of a BETWEEN and so on doubles each time all that is nested in it, and a short statement of such ones would outgrow every memory.
func (r *reader) double(size int) {
	r.parts += size
	if r.parts > mostParts {
		r.fail(api.ErrLimit)
	}
}
