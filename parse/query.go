package parse

import (
	"consistory/api"
)

func (r *reader) query() api.Stmt {
	x := api.Stmt{Kind: api.SSelect, Limit: -1}
	x.Distinct = r.take("DISTINCT")
	x.Items = list(r, r.item)
	r.must("FROM")
	x.From = r.sources()
	x.Where = r.clause("WHERE")
	if r.take("GROUP") {
		r.must("BY")
		x.Group = list(r, r.expr)
	}
	x.Having = r.clause("HAVING")
	if r.take("ORDER") {
		r.must("BY")
		x.Order = list(r, r.order)
	}
	if r.take("LIMIT") {
		x.Limit = r.int("")
	}
	return x
}

func (r *reader) item() api.Item {
	if r.take("*") {
		return api.Item{Star: true}
	}
	i := api.Item{Expr: r.expr()}
	if r.take("AS") {
		i.Name = r.name()
	}
	return i
}

func (r *reader) sources() []api.Source {
	l := []api.Source{r.source()}
	for r.mark() == "LEFT" || r.mark() == "JOIN" {
		left := r.take("LEFT")
		r.must("JOIN")
		r.element(len(l), api.MaxFrom, func() {
			s := r.source()
			r.must("ON")
			s.Left, s.On = left, r.expr()
			l = append(l, s)
		})
	}
	return l
}

func (r *reader) source() api.Source {
	s := api.Source{Name: r.name()}
	if r.now().Kind == api.TokName {
		s.Alias = r.name()
	}
	return s
}

func (r *reader) order() api.Order {
	o := api.Order{Expr: r.expr()}
	switch r.mark() {
	case "DESC":
		o.Desc = true
		fallthrough
	case "ASC":
		r.pass()
	}
	return o
}
