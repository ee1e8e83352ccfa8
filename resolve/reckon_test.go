package resolve_test

import (
	"errors"
	"testing"

	"consistory/api"
	"consistory/value"
)

// reckoner reckons what was told, each part of it, whatever the others are: of an operator no type may be wrong.
type reckoner struct {
	t    *testing.T
	rows [][]api.Value
}

// eval tells the value of e on a row; what is too great, or divided by zero, counts as a NULL.
func (r reckoner) eval(e api.Expr, row []api.Value) api.Value {
	var args []api.Value
	if e.Kind != api.EAgg {
		for _, a := range e.Args {
			args = append(args, r.eval(a, row))
		}
	}
	out := r.one(e, args, row)
	if out.Kind != api.Null && out.Kind != e.Type {
		r.t.Errorf("P13.3: %s is %s", show(e), value.Print(out))
	}
	return out
}

func (r reckoner) one(e api.Expr, args, row []api.Value) api.Value {
	switch e.Kind {
	case api.EValue:
		return e.Value
	case api.ECol:
		return row[e.At]
	case api.EIn:
		found := api.False
		for _, a := range args[1:] {
			found = value.Or(found, r.test(api.OEq, args[0], a))
		}
		return ofTruth(found)
	case api.ECase:
		return r.choice(args)
	case api.EAgg:
		return r.aggregate(e)
	}
	switch op := e.Op; {
	case op == api.ONot:
		return ofTruth(value.Not(r.truth(args[0])))
	case op == api.OAnd:
		return ofTruth(value.And(r.truth(args[0]), r.truth(args[1])))
	case op == api.OOr:
		return ofTruth(value.Or(r.truth(args[0]), r.truth(args[1])))
	case op == api.OIsNull, op == api.ONotNull:
		return api.Value{Kind: api.Bool}
	case op >= api.OEq && op <= api.OGe:
		return ofTruth(r.test(op, args[0], args[1]))
	case op == api.ONeg:
		return r.do(op, args[0], api.Value{})
	}
	return r.do(e.Op, args[0], args[1])
}

func (r reckoner) right(err error) bool {
	if errors.Is(err, api.ErrType) || errors.Is(err, api.ErrForm) {
		r.t.Errorf("P13.3: %v", err)
	}
	return err == nil
}

func (r reckoner) do(op int, a, b api.Value) api.Value {
	v, err := value.Do(op, a, b)
	r.right(err)
	return v
}

func (r reckoner) test(op int, a, b api.Value) int {
	n, err := value.Test(op, a, b)
	if !r.right(err) {
		return api.Unknown
	}
	return n
}

func (r reckoner) truth(v api.Value) int {
	if v.Kind == api.Null {
		return api.Unknown
	}
	if v.Kind != api.Bool {
		r.t.Errorf("P13.3: %s is no truth", value.Print(v))
	}
	return int(v.Int)
}

func ofTruth(n int) api.Value {
	if n == api.Unknown {
		return api.Value{}
	}
	return api.Value{Kind: api.Bool, Int: int64(n)}
}

// choice asks all conditions to be truths; each value may be the one.
func (r reckoner) choice(args []api.Value) api.Value {
	for ; len(args) > 1; args = args[2:] {
		if r.truth(args[0]) == api.True {
			return args[1]
		}
	}
	return append(args, api.Value{})[0]
}

func (r reckoner) aggregate(e api.Expr) api.Value {
	var out api.Value
	for _, row := range r.rows {
		var v api.Value
		if len(e.Args) > 0 {
			v = r.eval(e.Args[0], row)
		}
		switch {
		case e.Op == api.ACount:
			out = api.Value{Kind: api.Int, Int: out.Int + 1}
		case v.Kind == api.Null:
		case out.Kind == api.Null:
			out = v
			if e.Op == api.ASum {
				r.do(api.ONeg, v, api.Value{})
			}
		case e.Op == api.ASum:
			out = r.do(api.OAdd, out, v)
		case r.test(api.OLt, v, out) == api.True:
			out = v
		}
	}
	return out
}

// reckonAll reckons all expressions of what was told of x, on rows by chance.
func reckonAll(t *testing.T, s api.Schema, x api.Stmt, c chance) {
	t.Helper()
	var kinds []int
	for _, f := range append([]api.Source{{Name: x.Name}}, x.From...) {
		for _, table := range s.Tables {
			if table.Name != f.Name {
				continue
			}
			for _, col := range table.Cols {
				kinds = append(kinds, col.Type)
			}
		}
	}
	rows := some(c, 3, 3, func() []api.Value {
		var l []api.Value
		for _, kind := range kinds {
			l = append(l, pick(c, api.Value{}, c.value(kind), c.value(kind), c.value(kind)))
		}
		return l
	})
	r := reckoner{t, rows}
	for _, e := range whole(x) {
		for _, row := range rows {
			r.eval(e, row)
		}
	}
}

// whole tells the expressions of x that aren't parts of others.
func whole(x api.Stmt) []api.Expr {
	l := append([]api.Expr{}, x.Group...)
	for _, row := range x.Rows {
		l = append(l, row...)
	}
	for _, set := range x.Sets {
		l = append(l, set.Expr)
	}
	for _, f := range x.From {
		l = append(l, f.On)
	}
	for _, item := range x.Items {
		l = append(l, item.Expr)
	}
	for _, o := range x.Order {
		l = append(l, o.Expr)
	}
	l = append(l, x.Where, x.Having)
	var out []api.Expr
	for _, e := range l {
		if e.Kind != 0 {
			out = append(out, e)
		}
	}
	return out
}

// TestToldCanBeReckoned: P13.3, of statements by chance.
func TestToldCanBeReckoned(t *testing.T) {
	t.Parallel()
	s := schema(t)
	taken := 0
	for seed := range int64(40) {
		m := maker{byChance(seed), s, 60}
		for range 150 {
			out, c := stmt(t, s, m.stmt())
			if c != 0 {
				continue
			}
			taken++
			reckonAll(t, s, out, m.chance)
			checkPlaces(t, s, out)
		}
	}
	if taken < 2000 {
		t.Errorf("only %d were taken", taken)
	}
}

// checkPlaces: what is put into a column, and what tells which rows, is of its type.
func checkPlaces(t *testing.T, s api.Schema, x api.Stmt) {
	t.Helper()
	kinds := map[string]int{}
	for _, table := range s.Tables {
		for _, col := range table.Cols {
			if table.Name == x.Name {
				kinds[col.Name] = col.Type
			}
		}
	}
	fits := func(e api.Expr, kind int) {
		if e.Type != 0 && e.Type != kind {
			t.Errorf("P13.3: %s: type %d, not %d", showStmt(x), e.Type, kind)
		}
	}
	for _, row := range x.Rows {
		for i, e := range row {
			fits(e, kinds[x.Cols[i]])
		}
	}
	for _, set := range x.Sets {
		fits(set.Expr, kinds[set.Name])
	}
	for _, f := range x.From {
		fits(f.On, api.Bool)
	}
	fits(x.Where, api.Bool)
	fits(x.Having, api.Bool)
}
