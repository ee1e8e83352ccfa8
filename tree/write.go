package tree

import (
	"strconv"
	"strings"

	"consistory/api"
)

// writer: what is written so far; how much is open there, and was at most.
type writer struct {
	text       strings.Builder
	open, most int
}

func (w *writer) put(parts ...string) {
	for _, s := range parts {
		w.text.WriteString(s)
	}
}

// begin writes what is open until its end.
func (w *writer) begin(s string) {
	w.put(s)
	w.open++
	w.most = max(w.most, w.open)
}

func (w *writer) end(s string) {
	w.put(s)
	w.open--
}

// list writes elements with commas between.
func list[T any](w *writer, l []T, one func(*T)) {
	for i := range l {
		if i > 0 {
			w.put(", ")
		}
		one(&l[i])
	}
}

// stmt writes one that may be.
func (w *writer) stmt(x *api.Stmt) {
	switch x.Kind {
	case api.SCreate:
		w.create(x)
	case api.SIndex:
		w.index(x)
	case api.SDrop:
		w.put("DROP TABLE ", x.Name)
	case api.SUnindex:
		w.put("DROP INDEX ", x.Index)
	case api.SInsert:
		w.insert(x)
	case api.SUpdate:
		w.put("UPDATE ", x.Name, " SET ")
		list(w, x.Sets, func(s *api.Set) {
			w.put(s.Name, " = ")
			w.expr(&s.Expr)
		})
		w.clause(" WHERE ", &x.Where)
	case api.SDelete:
		w.put("DELETE FROM ", x.Name)
		w.clause(" WHERE ", &x.Where)
	case api.SSelect:
		w.query(x)
	}
}

func (w *writer) create(x *api.Stmt) {
	w.put("CREATE TABLE ", x.Table.Name, " ")
	w.begin("(")
	list(w, x.Table.Cols, func(c *api.Column) {
		w.put(c.Name, " ", typeWord(c.Type))
		if c.NotNull {
			w.put(" NOT NULL")
		}
	})
	for i, k := range x.Table.Keys {
		if k.Primary {
			w.put(", PRIMARY KEY ")
		} else {
			w.put(", UNIQUE ")
		}
		w.names(x.KeyCols[i])
	}
	w.end(")")
}

func typeWord(t int) string {
	switch t {
	case api.Bool:
		return "BOOL"
	case api.Int:
		return "INT"
	}
	return "TEXT"
}

func (w *writer) index(x *api.Stmt) {
	w.put("CREATE ")
	if x.Unique {
		w.put("UNIQUE ")
	}
	w.put("INDEX ", x.Index, " ON ", x.Name, " ")
	w.names(x.Cols)
}

func (w *writer) names(l []string) {
	w.begin("(")
	list(w, l, func(s *string) { w.put(*s) })
	w.end(")")
}

func (w *writer) insert(x *api.Stmt) {
	w.put("INSERT INTO ", x.Name, " ")
	if len(x.Cols) > 0 {
		w.names(x.Cols)
		w.put(" ")
	}
	w.put("VALUES ")
	list(w, x.Rows, func(row *[]api.Expr) { w.bracketed(*row) })
}

func (w *writer) query(x *api.Stmt) {
	w.put("SELECT ")
	if x.Distinct {
		w.put("DISTINCT ")
	}
	list(w, x.Items, w.item)
	w.put(" FROM ")
	for i := range x.From {
		w.source(&x.From[i])
	}
	w.clause(" WHERE ", &x.Where)
	if len(x.Group) > 0 {
		w.put(" GROUP BY ")
		list(w, x.Group, w.expr)
	}
	w.clause(" HAVING ", &x.Having)
	if len(x.Order) > 0 {
		w.put(" ORDER BY ")
		list(w, x.Order, w.order)
	}
	if x.Limit >= 0 {
		w.put(" LIMIT ", strconv.FormatInt(x.Limit, 10))
	}
}

func (w *writer) item(i *api.Item) {
	if i.Star {
		w.put("*")
		return
	}
	w.expr(&i.Expr)
	if i.Name != "" {
		w.put(" AS ", i.Name)
	}
}

// source: the first one has nothing that it is joined on.
func (w *writer) source(s *api.Source) {
	if s.Left {
		w.put(" LEFT")
	}
	if isThere(&s.On) {
		w.put(" JOIN ")
	}
	w.put(s.Name)
	if s.Alias != "" {
		w.put(" ", s.Alias)
	}
	w.clause(" ON ", &s.On)
}

func (w *writer) order(o *api.Order) {
	w.expr(&o.Expr)
	if o.Desc {
		w.put(" DESC")
	}
}

// clause writes one that may be without an expression: then there is nothing.
func (w *writer) clause(words string, e *api.Expr) {
	if isThere(e) {
		w.put(words)
		w.expr(e)
	}
}

func isThere(e *api.Expr) bool { return e.Kind != 0 }
