package parse

import (
	"strconv"

	"consistory/api"
)

// factor: a minus right ahead of an int is that one's; any other is an operator.
func (r *reader) factor() api.Expr {
	switch t := r.now(); t.Kind {
	case api.TokInt:
		return r.number("")
	case api.TokText:
		return r.text()
	case api.TokName:
		return r.place()
	case api.TokSign:
		if t.Text == "-" && r.left[1].Kind == api.TokInt {
			r.pass()
			return r.number("-")
		}
		fallthrough
	default:
		return r.marked()
	}
}

func (r *reader) literal(v api.Value) api.Expr {
	return r.part(api.Expr{Kind: api.EValue, Value: v})
}

func (r *reader) number(sign string) api.Expr {
	return r.literal(api.Value{Kind: api.Int, Int: r.int(sign)})
}

func (r *reader) int(sign string) int64 {
	t := r.now()
	if t.Kind != api.TokInt {
		r.fail(api.ErrSyntax)
		return 0
	}
	n, err := strconv.ParseInt(sign+t.Text, 10, 64)
	if err != nil { // digits can't but be too many
		r.fail(api.ErrLimit)
		return 0
	}
	r.pass()
	return n
}

func (r *reader) text() api.Expr {
	t := r.now()
	if len(t.Text) > api.MaxText {
		r.fail(api.ErrLimit)
		return api.Expr{}
	}
	r.pass()
	return r.literal(api.Value{Kind: api.Text, Text: t.Text})
}

// place reads a column's name, and its table's ahead of it, if that is told.
func (r *reader) place() api.Expr {
	e := api.Expr{Kind: api.ECol, Name: r.name()}
	if r.take(".") {
		e.Table, e.Name = e.Name, r.name()
	}
	return r.part(e)
}

// marked reads what begins with a word or a sign.
func (r *reader) marked() api.Expr {
	var v api.Value
	switch r.mark() {
	case "(":
		return r.bracketed()
	case "-":
		return r.prefix(api.ONeg, r.factor)
	case "CASE":
		return r.cases()
	case "COUNT":
		return r.aggregate(api.ACount)
	case "SUM":
		return r.aggregate(api.ASum)
	case "MIN":
		return r.aggregate(api.AMin)
	case "MAX":
		return r.aggregate(api.AMax)
	case "TRUE":
		v.Int = 1
		fallthrough
	case "FALSE":
		v.Kind = api.Bool
		fallthrough
	case "NULL":
		r.pass()
		return r.literal(v)
	}
	r.fail(api.ErrSyntax)
	return api.Expr{}
}

func (r *reader) bracketed() api.Expr {
	var e api.Expr
	r.brackets(func() { e = r.expr() })
	return e
}

func (r *reader) cases() api.Expr {
	var l []api.Expr
	r.nested(func() {
		for more := true; more; more = r.mark() == "WHEN" {
			r.element(len(l)/2, api.MaxItems, func() {
				r.must("WHEN")
				l = append(l, r.expr())
				r.must("THEN")
				l = append(l, r.expr())
			})
		}
		if r.take("ELSE") {
			l = append(l, r.expr())
		}
		r.must("END")
	})
	return r.node(api.ECase, 0, l...)
}

func (r *reader) aggregate(op int) api.Expr {
	e := r.node(api.EAgg, op)
	r.pass()
	r.brackets(func() {
		if op == api.ACount && r.take("*") {
			return
		}
		e.Args = []api.Expr{r.expr()}
	})
	return e
}
