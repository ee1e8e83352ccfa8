package parse

import (
	"consistory/api"
)

// table reads the first part as a column: keys stand behind one.
func (r *reader) table() api.Stmt {
	x := api.Stmt{Kind: api.SCreate}
	x.Table.Name = r.name()
	r.brackets(func() {
		r.column(&x)
		for r.take(",") {
			r.columnOrKey(&x)
		}
	})
	return x
}

func (r *reader) columnOrKey(x *api.Stmt) {
	switch r.mark() {
	case "PRIMARY", "UNIQUE":
		r.key(x, r.names)
	default:
		r.column(x)
	}
}

// column reads one and its own keys, which are counted with the table's others.
func (r *reader) column(x *api.Stmt) {
	var c api.Column
	r.element(len(x.Table.Cols), api.MaxItems, func() {
		c.Name = r.name()
		c.Type = r.typeOf()
		if r.take("NOT") {
			r.must("NULL")
			c.NotNull = true
		}
	})
	x.Table.Cols = append(x.Table.Cols, c)
	itself := func() []string { return []string{c.Name} }
	if r.mark() == "PRIMARY" {
		r.key(x, itself)
	}
	if r.mark() == "UNIQUE" {
		r.key(x, itself)
	}
}

// key reads one that is PRIMARY or UNIQUE, by cols of which columns.
func (r *reader) key(x *api.Stmt, cols func() []string) {
	r.element(len(x.Table.Keys), api.MaxItems, func() {
		k := api.Key{Unique: true, Primary: r.take("PRIMARY")}
		if k.Primary {
			r.must("KEY")
		} else {
			r.must("UNIQUE")
		}
		x.Table.Keys = append(x.Table.Keys, k)
		x.KeyCols = append(x.KeyCols, cols())
	})
}

func (r *reader) typeOf() int {
	switch {
	case r.take("BOOL"):
		return api.Bool
	case r.take("INT"):
		return api.Int
	}
	r.must("TEXT")
	return api.Text
}
