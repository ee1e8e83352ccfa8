package change_test

import (
	"fmt"
	"math"
	"reflect"
	"slices"
	"strings"
	"testing"

	"consistory/api"
	"consistory/change"
	"consistory/parse"
	"consistory/table"
	"consistory/tree"
)

// maker makes statements about what is there, most of which resolve takes.
type maker struct {
	chance
	s api.Schema
}

func (m maker) value(kind int) api.Expr {
	if m.chance(12) == 0 {
		return constant(null)
	}
	switch {
	case kind == api.Int && m.chance(2) == 0:
		return constant(integer(int64(m.chance(pick(m.chance, 4, 4, 200)))))
	case kind == api.Text && m.chance(2) == 0:
		return constant(textOf("x" + string(rune('a'+m.chance(26)))))
	}
	return constant(pick(m.chance, edges(kind)...))
}

// leaf makes a column of that type, if there is one, or a value.
func (m maker) leaf(row []api.Column, kind int) api.Expr {
	var fit []api.Column
	for _, c := range row {
		if c.Type == kind {
			fit = append(fit, c)
		}
	}
	if len(fit) == 0 || m.chance(4) == 0 {
		return m.value(kind)
	}
	return col(pick(m.chance, fit...).Name)
}

// expr makes one of that type over a row, at most so deep.
func (m maker) expr(row []api.Column, kind, deep int) api.Expr {
	of := func(kind int) api.Expr { return m.expr(row, kind, deep-1) }
	switch {
	case deep == 0 || m.chance(3) == 0:
		return m.leaf(row, kind)
	case m.chance(8) == 0:
		return node(api.ECase, 0, of(api.Bool), of(kind), of(kind))
	case kind == api.Int && m.chance(6) == 0:
		return node(api.EUnary, api.ONeg, of(kind))
	case kind == api.Int:
		return node(api.EBinary, pick(m.chance, api.OAdd, api.OSub, api.OMul, api.ODiv, api.ODiv, api.OMod), of(kind), of(kind))
	case kind == api.Text:
		return node(api.EBinary, api.OCat, of(kind), of(kind))
	}
	kind = 1 + m.chance(3)
	switch m.chance(7) {
	case 0:
		return node(api.EUnary, api.ONot, of(api.Bool))
	case 1:
		return node(api.EUnary, api.OIsNull+m.chance(2), of(kind))
	case 2, 3:
		return node(api.EBinary, api.OAnd+m.chance(2), of(api.Bool), of(api.Bool))
	case 4:
		return node(api.EIn, 0, of(kind), of(kind), of(kind))
	}
	return node(api.EBinary, api.OEq+m.chance(6), of(kind), of(kind))
}

// where makes parts with ANDs between, mostly comparisons of a column with a value; or none.
func (m maker) where(row []api.Column) api.Expr {
	var l []api.Expr
	for range pick(m.chance, 0, 1, 1, 1, 1, 2, 2, 2, 3, 3) {
		switch m.chance(4) {
		case 0:
			l = append(l, m.expr(row, api.Bool, 1+m.chance(2)))
			continue
		case 1:
			l = append(l, node(api.EBinary, api.OEq+m.chance(6), m.expr(row, api.Int, 2), m.value(api.Int)))
			continue
		}
		c := pick(m.chance, row...)
		l = append(l, node(api.EBinary, api.OEq+m.chance(6), col(c.Name), m.value(c.Type)))
	}
	if len(l) == 0 {
		return api.Expr{}
	}
	for len(l) > 1 {
		l = append([]api.Expr{node(api.EBinary, api.OAnd, l[0], l[1])}, l[2:]...)
	}
	return l[0]
}

// some picks columns of a table, none twice.
func (m maker) some(t api.Table, least int) []api.Column {
	l := slices.Clone(t.Cols)
	for i := range l {
		k := i + m.chance(len(l)-i)
		l[i], l[k] = l[k], l[i]
	}
	return l[:least+m.chance(len(l)+1-least)]
}

func (m maker) insert(t api.Table) api.Stmt {
	x := api.Stmt{Kind: api.SInsert, Name: t.Name}
	cols := t.Cols
	if m.chance(2) == 0 {
		cols = m.some(t, 1)
		for _, c := range cols {
			x.Cols = append(x.Cols, c.Name)
		}
	}
	for range pick(m.chance, 1, 2, 3, 10, 10) {
		var row []api.Expr
		for _, c := range cols {
			row = append(row, m.expr(nil, c.Type, pick(m.chance, 0, 0, 0, 0, 0, 0, 0, 0, 0, 0, 1, 2)))
		}
		x.Rows = append(x.Rows, row)
	}
	return x
}

func (m maker) update(t api.Table) api.Stmt {
	x := api.Stmt{Kind: api.SUpdate, Name: t.Name, Where: m.where(t.Cols)}
	for _, c := range m.some(t, 1) {
		x.Sets = append(x.Sets, api.Set{Name: c.Name, Expr: m.expr(t.Cols, c.Type, m.chance(3))})
		if m.chance(2) == 0 {
			break
		}
	}
	return x
}

// name makes one that is taken, or isn't.
func (m maker) name() string { return "k" + string(rune('a'+m.chance(12))) }

func (m maker) create() api.Stmt {
	x := api.Stmt{Kind: api.SCreate, Table: api.Table{Name: m.name()}}
	for n := range 1 + m.chance(4) {
		x.Table.Cols = append(x.Table.Cols, api.Column{Name: string(rune('a' + n)), Type: pick(m.chance, api.Int, api.Int, api.Text, api.Bool), NotNull: m.chance(4) == 0})
	}
	for range m.chance(3) {
		primary := m.chance(3) == 0
		x.Table.Keys = append(x.Table.Keys, api.Key{Unique: true, Primary: primary})
		x.KeyCols = append(x.KeyCols, m.names(x.Table))
	}
	return x
}

func (m maker) names(t api.Table) []string {
	var l []string
	for _, c := range m.some(t, 1) {
		l = append(l, c.Name)
	}
	return l
}

// statement makes one; more that write rows than that define.
func (m maker) statement() api.Stmt {
	if len(m.s.Tables) == 0 {
		return m.create()
	}
	t := pick(m.chance, m.s.Tables...)
	switch n := m.chance(100); {
	case n < 4:
		return m.create()
	case n < 12:
		return api.Stmt{Kind: api.SIndex, Index: m.name(), Name: t.Name, Cols: m.names(t), Unique: m.chance(2) == 0}
	case n < 15:
		return api.Stmt{Kind: api.SUnindex, Index: m.name()}
	case n < 16:
		return api.Stmt{Kind: api.SDrop, Name: pick(m.chance, t.Name, m.name())}
	case n < 20:
		return api.Stmt{Kind: api.SSelect, Items: []api.Item{{Star: true}, {Expr: m.expr(t.Cols, api.Int, 2)}}, From: []api.Source{{Name: t.Name}}, Where: m.where(t.Cols), Limit: -1}
	case n < 30:
		return api.Stmt{Kind: api.SDelete, Name: t.Name, Where: m.where(t.Cols)}
	case n < 60:
		return m.update(t)
	}
	return m.insert(t)
}

// kindName writes what a statement is.
func kindName(kind int) string {
	return []string{"none", "create", "index", "drop", "unindex", "insert", "update", "delete", "select"}[kind]
}

// kinds tells what of a statement and its answer is counted.
func kinds(was state, x api.Stmt, a api.Answer, c api.Class, byKey bool) []string {
	kind := kindName(x.Kind)
	l := []string{fmt.Sprint(kind, " ", int(c))}
	if c == 0 && a.Count > 1 {
		l = append(l, kind+" of some")
	}
	if c == 0 && a.Count > 0 && byKey {
		l = append(l, kind+" by a key")
	}
	if c != 0 && byKey {
		l = append(l, kind+" by a key, refused")
	}
	for i, t := range was.Schema.Tables {
		if c == 0 && t.Name == x.Name && len(t.Keys) > 0 && len(was.Data.Rows[i]) > 20 {
			l = append(l, kind+" of much")
		}
	}
	return l
}

// TestByChance: P17.1, P17.3, of statements by chance, one behind the other.
func TestByChance(t *testing.T) {
	t.Parallel()
	tried := map[string]int{}
	for seed := range int64(80) {
		c := byChance(seed)
		store := table.New()
		for range 150 {
			was := stateOf(store)
			x := maker{c, was.Schema}.statement()
			byKey := isByKey(store, x)
			a, class := hold(t, store, x)
			for _, kind := range kinds(was, x, a, class, byKey) {
				tried[kind]++
			}
		}
	}
	for _, kind := range []string{
		"create 0", "create 3", "index 0", "index 2", "index 3", "index 5", "drop 0", "unindex 0", "unindex 3", "select 0", "select 6", "select 7",
		"insert 0", "insert 2", "insert 5", "insert 6", "insert 7", "insert of some", "insert of much",
		"update 0", "update 5", "update 6", "update 7", "update of some", "update of much", "update by a key", "update by a key, refused",
		"delete 0", "delete 6", "delete 7", "delete of some", "delete by a key", "delete of much",
	} {
		if tried[kind] < 15 {
			t.Errorf("too little is tried: %s: %d", kind, tried[kind])
		}
	}
	if t.Failed() || testing.Verbose() {
		t.Log(tried)
	}
}

// TestRowsByChance: P17.1 of stores with many rows, whose values are those at which things go wrong.
func TestRowsByChance(t *testing.T) {
	t.Parallel()
	tried := map[string]int{}
	for seed := range int64(40) {
		c := byChance(seed)
		first := keyed(t, c)
		for range 60 {
			store := first.Clone()
			m := maker{c, store.Schema()}
			x := m.statement()
			byKey := isByKey(store, x)
			a, class := hold(t, store, x)
			for _, kind := range kinds(stateOf(first), x, a, class, byKey) {
				tried[kind]++
			}
		}
	}
	for _, kind := range []string{"insert 0", "insert 5", "update 0", "update 5", "update 6", "update 7", "update by a key", "update by a key, refused", "update of much", "delete by a key"} {
		if tried[kind] < 10 {
			t.Errorf("too little is tried: %s: %d", kind, tried[kind])
		}
	}
	if t.Failed() || testing.Verbose() {
		t.Log(tried)
	}
}

// spoil changes one place of what x points to, so that it may not be any more, or may be all the same.
func (c chance) spoil(x any) {
	v := pick(c, spots(x)...)
	switch v.Kind() {
	case reflect.Int, reflect.Int64:
		v.SetInt(pick(c, 0, 1, -1, v.Int()+1, v.Int()-1, 2, 3, 5, math.MaxInt64, math.MinInt64))
	case reflect.Bool:
		v.SetBool(!v.Bool())
	case reflect.String:
		v.SetString(pick(c, "", "a", "b", "t", "x", "A", "select", strings.Repeat("m", api.MaxName+1)))
	case reflect.Slice:
		if n := v.Len(); n > 0 && c(3) == 0 {
			v.Set(v.Slice(0, n-1))
		} else if n > 0 {
			v.Set(reflect.Append(v, v.Index(c(n))))
		} else {
			v.Set(reflect.Append(v, reflect.New(v.Type().Elem()).Elem()))
		}
	case reflect.Struct:
		v.SetZero()
	}
}

// TestWrongOnesByChance: whatever is handed in, what the model tells; behind an error all is as it was.
func TestWrongOnesByChance(t *testing.T) {
	t.Parallel()
	tried := map[api.Class]int{}
	c := byChance(5)
	for range 50 {
		store := keyed(t, c)
		for range 100 {
			x := maker{c, store.Schema()}.statement()
			for range 1 + c(2) {
				c.spoil(&x)
			}
			_, class := hold(t, store, x)
			tried[class]++
		}
	}
	for _, c := range []api.Class{0, api.ErrForm, api.ErrName, api.ErrType, api.ErrConstraint} {
		if tried[c] < 50 {
			t.Errorf("too little is tried: class %d: %d", c, tried[c])
		}
	}
}

// FuzzRun: texts as statements to a store, line by line.
func FuzzRun(f *testing.F) {
	for _, sql := range samples {
		f.Add(sql, int64(len(sql)))
	}
	f.Add(strings.Join(samples, "\n"), int64(1))
	f.Fuzz(func(t *testing.T, lines string, seed int64) {
		store := keyed(t, byChance(seed))
		for sql := range strings.SplitSeq(lines, "\n") {
			if strings.Count(strings.ToUpper(sql), "BETWEEN") > 4 { // they double what is looked at
				return
			}
			other := store.Clone()
			a, err := change.Run(other, sql)
			a, c := answered(t, a, err)
			x, err := parse.Parse(sql)
			if err != nil {
				if c != class(t, err) || !equal(stateOf(other), stateOf(store)) {
					t.Errorf("P17.2: %q: class %d, want %v", sql, c, err)
				}
				continue
			}
			b, want := hold(t, store, x)
			if c != want || !equal(a, b) || !equal(stateOf(other), stateOf(store)) {
				t.Errorf("P17.2: %q: %s, want %s", sql, say(a, c), say(b, want))
			}
			if !tree.Is(x) {
				t.Errorf("rule 3: %q: it has changed", sql)
			}
		}
	})
}
