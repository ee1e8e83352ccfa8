package resolve

import (
	"slices"

	"consistory/api"
)

// scope: what an expression may name: columns, each as it is told, from the left. If it is grouped, those of group alone, but any within an aggregate, and there may be aggregates.
type scope struct {
	cols    []api.Expr
	grouped bool
	group   []api.Expr
}

// columns tells l, of what is called so, behind those that are ahead of them in a row.
func columns(ahead []api.Expr, called string, l []api.Column) []api.Expr {
	for _, c := range l {
		ahead = append(ahead, api.Expr{Kind: api.ECol, Table: called, Name: c.Name, At: len(ahead), Type: c.Type})
	}
	return ahead
}

// rows: the scope of an aggregate's argument.
func (s scope) rows() scope { return scope{cols: s.cols} }

// tell fills in the places and the types of e and all its parts, arguments ahead of their operator.
func (s scope) tell(e *api.Expr) error {
	inside := s
	if e.Kind == api.EAgg {
		inside = s.rows()
	}
	for i := range e.Args {
		if err := inside.tell(&e.Args[i]); err != nil {
			return err
		}
	}
	switch e.Kind {
	case api.EValue:
		e.Type = e.Value.Kind
		return nil
	case api.ECol:
		return s.column(e)
	case api.EAgg:
		if !s.grouped {
			return api.ErrType
		}
		fallthrough
	default:
		return operator(e)
	}
}

// column tells the only one that e may mean.
func (s scope) column(e *api.Expr) error {
	found := 0
	for _, c := range s.cols {
		if c.Name == e.Name && (e.Table == "" || e.Table == c.Table) {
			e.At, e.Type = c.At, c.Type
			found++
		}
	}
	if found != 1 {
		return of(shown(e), api.ErrName)
	}
	if s.grouped && !slices.ContainsFunc(s.group, func(g api.Expr) bool { return g.At == e.At }) {
		return of(shown(e), api.ErrType)
	}
	return nil
}

// shown: a column as it stands in the statement.
func shown(e *api.Expr) string {
	if e.Table == "" {
		return e.Name
	}
	return e.Table + "." + e.Name
}

// typed tells e, which must be of that type.
func (s scope) typed(e *api.Expr, want int) error {
	if err := s.tell(e); err != nil {
		return err
	}
	if !fits(*e, want) {
		return api.ErrType
	}
	return nil
}

// condition tells e, if it is there.
func (s scope) condition(e *api.Expr) error {
	if e.Kind == 0 {
		return nil
	}
	return s.typed(e, api.Bool)
}

func hasAggregate(e api.Expr) bool {
	return e.Kind == api.EAgg || slices.ContainsFunc(e.Args, hasAggregate)
}

// alike: whether two that are told mean the same; how their columns are named doesn't count.
func alike(a, b api.Expr) bool {
	return a.Kind == b.Kind && a.Op == b.Op && a.Value == b.Value &&
		a.At == b.At && a.Type == b.Type && slices.EqualFunc(a.Args, b.Args, alike)
}
