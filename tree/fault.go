package tree

import (
	"cmp"
	"errors"

	"consistory/api"
	"consistory/lex"
)

// stmtFault tells what is wrong of x; nil, if it may be.
func stmtFault(x *api.Stmt) error {
	if err := must(alikeStmt(rest(*x), api.Stmt{})); err != nil {
		return in("what its kind has no use for", err)
	}
	switch x.Kind {
	case api.SCreate:
		return createFault(x)
	case api.SIndex:
		if err := cmp.Or(nameOf("table", x.Name), namesOf("columns", x.Cols, 1)); err != nil {
			return err
		}
		fallthrough
	case api.SUnindex:
		return nameOf("index", x.Index)
	case api.SInsert:
		return cmp.Or(nameOf("table", x.Name), namesOf("columns", x.Cols, 0), rowsOf(x.Rows))
	case api.SUpdate:
		if err := setsOf(x.Sets); err != nil {
			return err
		}
		fallthrough
	case api.SDelete:
		if err := maybe("WHERE", &x.Where); err != nil {
			return err
		}
		fallthrough
	case api.SDrop:
		return nameOf("table", x.Name)
	case api.SSelect:
		return selectFault(x)
	}
	return in("kind", api.ErrForm)
}

// rest tells x without all that its Kind has use for: nothing may be left.
func rest(x api.Stmt) api.Stmt {
	switch x.Kind {
	case api.SCreate:
		x.Table, x.KeyCols = api.Table{}, nil
	case api.SIndex:
		x.Name, x.Cols, x.Unique = "", nil, false
		fallthrough
	case api.SUnindex:
		x.Index = ""
	case api.SSelect:
		x.Distinct, x.Items, x.From, x.Where = false, nil, nil, api.Expr{}
		x.Group, x.Having, x.Order, x.Limit = nil, api.Expr{}, nil, 0
	case api.SInsert:
		x.Name, x.Cols, x.Rows = "", nil, nil
	case api.SUpdate:
		x.Sets = nil
		fallthrough
	case api.SDelete:
		x.Where = api.Expr{}
		fallthrough
	case api.SDrop:
		x.Name = ""
	}
	x.Kind = 0
	return x
}

// createFault: columns and keys are counted as a statement's lists are; how many a table may have is asked elsewhere.
func createFault(x *api.Stmt) error {
	return cmp.Or(
		nameOf("table", x.Table.Name),
		in("columns", each(x.Table.Cols, 1, api.MaxItems, columnFault)),
		in("keys", each(x.Table.Keys, 0, api.MaxItems, keyFault)),
		in("keys' columns", each(x.KeyCols, len(x.Table.Keys), len(x.Table.Keys), func(l *[]string) error {
			return each(*l, 1, api.MaxItems, nameFault)
		})),
	)
}

func columnFault(c *api.Column) error {
	return cmp.Or(nameFault(&c.Name), of("type", must(c.Type >= api.Bool && c.Type <= api.Text)))
}

// keyFault: a statement tells a key's columns by name, beside it, and none but those that are unique.
func keyFault(k *api.Key) error {
	return cmp.Or(of("name", must(k.Name == "" && len(k.Cols) == 0)), of("UNIQUE", must(k.Unique)))
}

func rowsOf(rows [][]api.Expr) error {
	return in("VALUES", each(rows, 1, api.MaxItems, func(row *[]api.Expr) error {
		return each(*row, 1, api.MaxItems, exprFault)
	}))
}

func setsOf(sets []api.Set) error {
	return in("SET", each(sets, 1, api.MaxItems, func(s *api.Set) error {
		return cmp.Or(nameFault(&s.Name), exprFault(&s.Expr))
	}))
}

func selectFault(x *api.Stmt) error {
	return cmp.Or(
		in("items", each(x.Items, 1, api.MaxItems, itemFault)),
		fromFault(x.From),
		maybe("WHERE", &x.Where),
		in("GROUP BY", each(x.Group, 0, api.MaxItems, exprFault)),
		maybe("HAVING", &x.Having),
		in("ORDER BY", each(x.Order, 0, api.MaxItems, func(o *api.Order) error { return exprFault(&o.Expr) })),
		in("LIMIT", must(x.Limit >= -1)),
	)
}

func itemFault(i *api.Item) error {
	if i.Star {
		return of("*", must(i.Name == "" && alikeExpr(i.Expr, api.Expr{})))
	}
	return cmp.Or(noneOrName(&i.Name), exprFault(&i.Expr))
}

// fromFault: what a join is made by stands at the source behind it, so the first one has none.
func fromFault(from []api.Source) error {
	err := in("FROM", each(from, 1, api.MaxFrom, func(s *api.Source) error {
		return cmp.Or(nameFault(&s.Name), noneOrName(&s.Alias))
	}))
	if err != nil {
		return err
	}
	return in("JOIN", cmp.Or(
		of("first", must(!from[0].Left && alikeExpr(from[0].On, api.Expr{}))),
		each(from[1:], 0, api.MaxFrom, func(s *api.Source) error { return exprFault(&s.On) }),
	))
}

// maybe: of an expression that may be none.
func maybe(clause string, e *api.Expr) error {
	if alikeExpr(*e, api.Expr{}) {
		return nil
	}
	return in(clause, exprFault(e))
}

func nameOf(clause, s string) error { return in(clause, nameFault(&s)) }

func namesOf(clause string, l []string, least int) error {
	return in(clause, each(l, least, api.MaxItems, nameFault))
}

func nameFault(s *string) error { return of("name", must(lex.Name(*s))) }

func noneOrName(s *string) error {
	if *s == "" {
		return nil
	}
	return nameFault(s)
}

// each tells the first fault of a list: an element's, wrapped with its part, or the class alone, if it is too short or too long.
func each[T any](l []T, least, most int, fault func(*T) error) error {
	if len(l) < least || len(l) > most {
		return api.ErrForm
	}
	for i := range l {
		if err := fault(&l[i]); err != nil {
			return err
		}
	}
	return nil
}

func must(holds bool) error {
	if holds {
		return nil
	}
	return api.ErrForm
}

// of wraps err with the part that is wrong. If a part of that part is told already, it is what is wrong: so an error isn't wrapped as often as parts are nested.
func of(part string, err error) error {
	var told *api.Within
	if err == nil || errors.As(err, &told) {
		return err
	}
	return &api.Within{Part: part, Err: err}
}

// in wraps err with the clause that the wrong part stands in.
func in(clause string, err error) error {
	if err == nil {
		return nil
	}
	return &api.Within{Part: clause, Err: err}
}
