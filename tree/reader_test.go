package tree_test

import (
	"fmt"
	"slices"
	"strconv"

	"consistory/api"
	"consistory/lex"
)

// reader: of the grammar of layer 10, for what is printed: without its limits, its other ways to write a thing, and its places of errors. It counts what is open.
type reader struct {
	l          []api.Token
	open, most int
}

// read tells the statement that s is, and how much is open in it at most.
func read(s string) (x api.Stmt, deep int, err error) {
	l, err := lex.Tokens(s)
	if err != nil {
		return x, 0, err
	}
	r := &reader{l: l}
	defer func() {
		if fault := recover(); fault != nil {
			err = fmt.Errorf("%v: %s", fault, s)
		}
	}()
	x = r.stmt()
	if r.l[0].Kind != api.TokEnd {
		panic("something is left")
	}
	return x, r.most, nil
}

func (r *reader) isAt(ahead int, s string) bool {
	return ahead < len(r.l) && (r.l[ahead].Kind == api.TokWord || r.l[ahead].Kind == api.TokSign) && r.l[ahead].Text == s
}

// takes goes on behind these words and signs, if they stand there.
func (r *reader) takes(words ...string) bool {
	for i, w := range words {
		if !r.isAt(i, w) {
			return false
		}
	}
	r.l = r.l[len(words):]
	return true
}

func (r *reader) must(words ...string) {
	if !r.takes(words...) {
		panic(fmt.Sprint("not there: ", words))
	}
}

func (r *reader) of(kind int) string {
	if r.l[0].Kind != kind {
		panic(fmt.Sprintf("kind %d instead of %d", r.l[0].Kind, kind))
	}
	s := r.l[0].Text
	r.l = r.l[1:]
	return s
}

func (r *reader) name() string { return r.of(api.TokName) }

func (r *reader) noneOrName() string {
	if r.l[0].Kind == api.TokName {
		return r.name()
	}
	return ""
}

// opened reads what stands between something that is counted and its end.
func (r *reader) opened(inside func()) {
	r.open++
	r.most = max(r.most, r.open)
	inside()
	r.open--
}

func listOf[T any](r *reader, one func() T) []T {
	l := []T{one()}
	for r.takes(",") {
		l = append(l, one())
	}
	return l
}

func bracketOf[T any](r *reader, one func() T) (l []T) {
	r.must("(")
	r.opened(func() { l = listOf(r, one); r.must(")") })
	return l
}

func (r *reader) clause(words ...string) api.Expr {
	if r.takes(words...) {
		return r.expr()
	}
	return api.Expr{}
}

func (r *reader) stmt() api.Stmt {
	switch {
	case r.takes("CREATE", "TABLE"):
		return r.create()
	case r.takes("CREATE", "UNIQUE", "INDEX"):
		x := r.index()
		x.Unique = true
		return x
	case r.takes("CREATE", "INDEX"):
		return r.index()
	case r.takes("DROP", "TABLE"):
		return api.Stmt{Kind: api.SDrop, Name: r.name()}
	case r.takes("DROP", "INDEX"):
		return api.Stmt{Kind: api.SUnindex, Index: r.name()}
	case r.takes("INSERT", "INTO"):
		x := api.Stmt{Kind: api.SInsert, Name: r.name()}
		if !r.isAt(0, "VALUES") {
			x.Cols = bracketOf(r, r.name)
		}
		r.must("VALUES")
		x.Rows = listOf(r, func() []api.Expr { return bracketOf(r, r.expr) })
		return x
	case r.takes("UPDATE"):
		x := api.Stmt{Kind: api.SUpdate, Name: r.name()}
		r.must("SET")
		x.Sets = listOf(r, func() api.Set {
			name := r.name()
			r.must("=")
			return api.Set{Name: name, Expr: r.expr()}
		})
		x.Where = r.clause("WHERE")
		return x
	case r.takes("DELETE", "FROM"):
		return api.Stmt{Kind: api.SDelete, Name: r.name(), Where: r.clause("WHERE")}
	}
	r.must("SELECT")
	return r.query()
}

func (r *reader) index() api.Stmt {
	x := api.Stmt{Kind: api.SIndex, Index: r.name()}
	r.must("ON")
	x.Name = r.name()
	x.Cols = bracketOf(r, r.name)
	return x
}

func (r *reader) create() api.Stmt {
	x := api.Stmt{Kind: api.SCreate, Table: api.Table{Name: r.name()}}
	key := func(primary bool) {
		x.Table.Keys = append(x.Table.Keys, api.Key{Unique: true, Primary: primary})
		x.KeyCols = append(x.KeyCols, bracketOf(r, r.name))
	}
	bracketOf(r, func() int {
		switch {
		case len(x.Table.Cols) > 0 && r.takes("PRIMARY", "KEY"):
			key(true)
		case len(x.Table.Cols) > 0 && r.takes("UNIQUE"):
			key(false)
		default:
			c := api.Column{Name: r.name(), Type: slices.Index([]string{"", "BOOL", "INT", "TEXT"}, r.of(api.TokWord))}
			c.NotNull = r.takes("NOT", "NULL")
			x.Table.Cols = append(x.Table.Cols, c)
		}
		return 0
	})
	return x
}

func (r *reader) query() api.Stmt {
	x := api.Stmt{Kind: api.SSelect, Distinct: r.takes("DISTINCT"), Limit: -1}
	x.Items = listOf(r, func() api.Item {
		if r.takes("*") {
			return api.Item{Star: true}
		}
		i := api.Item{Expr: r.expr()}
		if r.takes("AS") {
			i.Name = r.name()
		}
		return i
	})
	r.must("FROM")
	x.From = []api.Source{{Name: r.name(), Alias: r.noneOrName()}}
	for {
		left := r.takes("LEFT")
		if !left && !r.isAt(0, "JOIN") {
			break
		}
		r.must("JOIN")
		s := api.Source{Name: r.name(), Alias: r.noneOrName(), Left: left}
		r.must("ON")
		s.On = r.expr()
		x.From = append(x.From, s)
	}
	x.Where = r.clause("WHERE")
	if r.takes("GROUP", "BY") {
		x.Group = listOf(r, r.expr)
	}
	x.Having = r.clause("HAVING")
	if r.takes("ORDER", "BY") {
		x.Order = listOf(r, func() api.Order { return api.Order{Expr: r.expr(), Desc: r.takes("DESC")} })
	}
	if r.takes("LIMIT") {
		x.Limit = r.int("")
	}
	return x
}

func (r *reader) int(sign string) int64 {
	n, err := strconv.ParseInt(sign+r.of(api.TokInt), 10, 64)
	if err != nil {
		panic(err)
	}
	return n
}

// row reads what stands to the left: parts with these operators between.
func (r *reader) row(part func() api.Expr, signs []string, ops []int) api.Expr {
	e := part()
	for {
		i := slices.IndexFunc(signs, func(s string) bool { return r.takes(s) })
		if i < 0 {
			return e
		}
		e = binary(ops[i], e, part())
	}
}

func (r *reader) expr() api.Expr { return r.row(r.and, []string{"OR"}, []int{api.OOr}) }

func (r *reader) and() api.Expr { return r.row(r.not, []string{"AND"}, []int{api.OAnd}) }

func (r *reader) not() (e api.Expr) {
	if !r.takes("NOT") {
		return r.test()
	}
	r.opened(func() { e = unary(api.ONot, r.not()) })
	return e
}

func (r *reader) test() api.Expr {
	e := r.sum()
	for i, s := range []string{"=", "<>", "<", "<=", ">", ">="} {
		if r.takes(s) {
			return binary(api.OEq+i, e, r.sum())
		}
	}
	switch {
	case r.takes("IS", "NULL"):
		return unary(api.OIsNull, e)
	case r.takes("IS", "NOT", "NULL"):
		return unary(api.ONotNull, e)
	case r.takes("IN"):
		return isIn(append([]api.Expr{e}, bracketOf(r, r.expr)...)...)
	}
	return e
}

func (r *reader) sum() api.Expr {
	return r.row(r.product, []string{"+", "-", "||"}, []int{api.OAdd, api.OSub, api.OCat})
}

func (r *reader) product() api.Expr {
	return r.row(r.factor, []string{"*", "/", "%"}, []int{api.OMul, api.ODiv, api.OMod})
}

func (r *reader) factor() (e api.Expr) {
	switch {
	case r.takes("-"):
		if r.l[0].Kind == api.TokInt {
			return number(r.int("-"))
		}
		r.opened(func() { e = unary(api.ONeg, r.factor()) })
		return e
	case r.takes("NULL"):
		return null()
	case r.takes("TRUE"):
		return truth(1)
	case r.takes("FALSE"):
		return truth(0)
	case r.takes("("):
		r.opened(func() { e = r.expr(); r.must(")") })
		return e
	case r.takes("CASE"):
		r.opened(func() { e = r.cases() })
		return e
	case r.takes("COUNT", "(", "*", ")"):
		r.opened(func() {})
		return agg(api.ACount)
	}
	for i, s := range []string{"COUNT", "SUM", "MIN", "MAX"} {
		if r.takes(s, "(") {
			r.opened(func() { e = agg(api.ACount+i, r.expr()); r.must(")") })
			return e
		}
	}
	switch r.l[0].Kind {
	case api.TokInt:
		return number(r.int(""))
	case api.TokText:
		return text(r.of(api.TokText))
	}
	first := r.name()
	if r.takes(".") {
		return colOf(first, r.name())
	}
	return col(first)
}

func (r *reader) cases() api.Expr {
	e := caseOf()
	for r.takes("WHEN") {
		e.Args = append(e.Args, r.expr())
		r.must("THEN")
		e.Args = append(e.Args, r.expr())
	}
	if r.takes("ELSE") {
		e.Args = append(e.Args, r.expr())
	}
	r.must("END")
	return e
}
