package parse

import (
	"consistory/api"
)

func (r *reader) stmt() api.Stmt {
	switch {
	case r.take("CREATE"):
		return r.create()
	case r.take("DROP"):
		return r.drop()
	case r.take("INSERT"):
		return r.insert()
	case r.take("UPDATE"):
		return r.update()
	case r.take("DELETE"):
		r.must("FROM")
		return api.Stmt{Kind: api.SDelete, Name: r.name(), Where: r.clause("WHERE")}
	case r.take("SELECT"):
		return r.query()
	}
	r.fail(api.ErrSyntax)
	return api.Stmt{}
}

// create reads what is created: what is neither a table nor UNIQUE has to be an index.
func (r *reader) create() api.Stmt {
	x := api.Stmt{Kind: api.SIndex}
	switch r.mark() {
	case "TABLE":
		r.pass()
		return r.table()
	case "UNIQUE":
		r.pass()
		x.Unique = true
		fallthrough
	default:
		r.must("INDEX")
	}
	x.Index = r.name()
	r.must("ON")
	x.Name = r.name()
	x.Cols = r.names()
	return x
}

func (r *reader) drop() api.Stmt {
	if r.take("TABLE") {
		return api.Stmt{Kind: api.SDrop, Name: r.name()}
	}
	r.must("INDEX")
	return api.Stmt{Kind: api.SUnindex, Index: r.name()}
}

func (r *reader) insert() api.Stmt {
	r.must("INTO")
	x := api.Stmt{Kind: api.SInsert, Name: r.name()}
	if r.mark() == "(" {
		x.Cols = r.names()
	}
	r.must("VALUES")
	x.Rows = list(r, r.exprs)
	return x
}

func (r *reader) update() api.Stmt {
	x := api.Stmt{Kind: api.SUpdate, Name: r.name()}
	r.must("SET")
	x.Sets = list(r, r.set)
	x.Where = r.clause("WHERE")
	return x
}

func (r *reader) set() api.Set {
	name := r.name()
	r.must("=")
	return api.Set{Name: name, Expr: r.expr()}
}

// clause reads an expression behind a word, if that comes next.
func (r *reader) clause(word string) api.Expr {
	if !r.take(word) {
		return api.Expr{}
	}
	return r.expr()
}
