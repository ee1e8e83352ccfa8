package tree_test

import (
	"math"
	"reflect"
	"strings"
	"testing"

	"consistory/api"
	"consistory/tree"
)

func TestStmtIsWritten(t *testing.T) {
	a, b := col("a"), col("b")
	cols := []api.Column{{Name: "a", Type: api.Int, NotNull: true}, {Name: "b", Type: api.Text}}
	from := []api.Source{{Name: "t"}}
	star := []api.Item{{Star: true}}
	for _, c := range []struct {
		want string
		x    api.Stmt
		deep int
	}{
		{"CREATE TABLE t (a INT NOT NULL, b TEXT, PRIMARY KEY (a, b), UNIQUE (b))", api.Stmt{Kind: api.SCreate, Table: api.Table{Name: "t", Cols: cols, Keys: []api.Key{{Unique: true, Primary: true}, {Unique: true}}}, KeyCols: [][]string{{"a", "b"}, {"b"}}}, 2},
		{"CREATE TABLE t (a INT NOT NULL, b TEXT, UNIQUE (b, a), PRIMARY KEY (b), PRIMARY KEY (c))", api.Stmt{Kind: api.SCreate, Table: api.Table{Name: "t", Cols: cols, Keys: []api.Key{{Unique: true}, {Unique: true, Primary: true}, {Unique: true, Primary: true}}}, KeyCols: [][]string{{"b", "a"}, {"b"}, {"c"}}}, 2},
		{"CREATE TABLE t (x BOOL)", api.Stmt{Kind: api.SCreate, Table: api.Table{Name: "t", Cols: []api.Column{{Name: "x", Type: api.Bool}}}}, 1},
		{"CREATE TABLE t (x BOOL NOT NULL, x BOOL)", api.Stmt{Kind: api.SCreate, Table: api.Table{Name: "t", Cols: []api.Column{{Name: "x", Type: api.Bool, NotNull: true}, {Name: "x", Type: api.Bool}}, Keys: []api.Key{}}, KeyCols: [][]string{}}, 1},
		{"CREATE UNIQUE INDEX i ON t (a, b)", api.Stmt{Kind: api.SIndex, Index: "i", Name: "t", Cols: []string{"a", "b"}, Unique: true}, 1},
		{"CREATE INDEX i ON t (a)", api.Stmt{Kind: api.SIndex, Index: "i", Name: "t", Cols: []string{"a"}}, 1},
		{"DROP TABLE t", api.Stmt{Kind: api.SDrop, Name: "t"}, 0},
		{"DROP INDEX i", api.Stmt{Kind: api.SUnindex, Index: "i"}, 0},
		{"INSERT INTO t (a, b) VALUES (1, 2), (3, 4)", api.Stmt{Kind: api.SInsert, Name: "t", Cols: []string{"a", "b"}, Rows: [][]api.Expr{{number(1), number(2)}, {number(3), number(4)}}}, 1},
		{"INSERT INTO t VALUES (-1)", api.Stmt{Kind: api.SInsert, Name: "t", Rows: [][]api.Expr{{number(-1)}}}, 1},
		{"INSERT INTO t VALUES (1 + 2, (- a) * 3), ('x')", api.Stmt{Kind: api.SInsert, Name: "t", Rows: [][]api.Expr{{binary(api.OAdd, number(1), number(2)), binary(api.OMul, unary(api.ONeg, a), number(3))}, {text("x")}}}, 3},
		{"UPDATE t SET a = 1, b = 2 WHERE a = 3", api.Stmt{Kind: api.SUpdate, Name: "t", Sets: []api.Set{{Name: "a", Expr: number(1)}, {Name: "b", Expr: number(2)}}, Where: binary(api.OEq, a, number(3))}, 0},
		{"UPDATE t SET a = a = b", api.Stmt{Kind: api.SUpdate, Name: "t", Sets: []api.Set{{Name: "a", Expr: binary(api.OEq, a, b)}}}, 0},
		{"DELETE FROM t WHERE NOT a", api.Stmt{Kind: api.SDelete, Name: "t", Where: unary(api.ONot, a)}, 1},
		{"DELETE FROM t", api.Stmt{Kind: api.SDelete, Name: "t"}, 0},
		{"SELECT DISTINCT *, a AS x FROM t u LEFT JOIN v ON a JOIN w z ON b WHERE a GROUP BY a HAVING b ORDER BY a, b DESC LIMIT 5", api.Stmt{Kind: api.SSelect, Distinct: true, Items: []api.Item{{Star: true}, {Expr: a, Name: "x"}}, From: []api.Source{{Name: "t", Alias: "u"}, {Name: "v", Left: true, On: a}, {Name: "w", Alias: "z", On: b}}, Where: a, Group: []api.Expr{a}, Having: b, Order: []api.Order{{Expr: a}, {Expr: b, Desc: true}}, Limit: 5}, 0},
		{"SELECT * FROM t", api.Stmt{Kind: api.SSelect, Items: star, From: from, Limit: -1}, 0},
		{"SELECT * FROM t LIMIT 0", api.Stmt{Kind: api.SSelect, Items: star, From: from}, 0},
		{"SELECT *, * FROM t LIMIT 9223372036854775807", api.Stmt{Kind: api.SSelect, Items: []api.Item{{Star: true}, {Star: true}}, From: from, Limit: math.MaxInt64}, 0},
		{"SELECT COUNT(*) AS n, - a FROM t GROUP BY a, a + 1 ORDER BY NOT a DESC, a", api.Stmt{Kind: api.SSelect, Items: []api.Item{{Expr: agg(api.ACount), Name: "n"}, {Expr: unary(api.ONeg, a)}}, From: from, Group: []api.Expr{a, binary(api.OAdd, a, number(1))}, Order: []api.Order{{Expr: unary(api.ONot, a), Desc: true}, {Expr: a}}, Limit: -1}, 1},
		{"SELECT a FROM t JOIN t ON TRUE HAVING COUNT(*) > 1", api.Stmt{Kind: api.SSelect, Items: []api.Item{{Expr: a}}, From: []api.Source{{Name: "t"}, {Name: "t", On: truth(1)}}, Having: binary(api.OGt, agg(api.ACount), number(1)), Limit: -1}, 1},
	} {
		holds(t, "P9.2: "+c.want, c.x, true)
		if s, err := tree.Print(c.x); s != c.want || err != nil {
			t.Errorf("P9.3: %s, %v, want %s", s, err, c.want)
		}
		if d := tree.Depth(c.x); d != c.deep {
			t.Errorf("P9.5: Depth: %d of %s, want %d", d, c.want, c.deep)
		}
		readAgain(t, c.x)
	}
}

func TestDepth(t *testing.T) {
	a := col("a")
	for _, c := range []struct {
		e    api.Expr
		deep int
	}{
		{a, 0}, {number(-1), 0}, {unary(api.OIsNull, a), 0}, {unary(api.ONotNull, a), 0}, {binary(api.OSub, a, a), 0},
		{unary(api.ONot, a), 1}, {unary(api.ONeg, a), 1}, {caseOf(a, a), 1}, {agg(api.ACount), 1}, {agg(api.ASum, a), 1}, {isIn(a, a), 1},
		{binary(api.OSub, number(-1), a), 1}, {unary(api.ONeg, number(1)), 2}, {unary(api.ONeg, number(-1)), 2}, {unary(api.ONot, number(1)), 1}, {unary(api.ONot, number(-1)), 2},
		{unary(api.ONot, unary(api.ONeg, a)), 3}, {unary(api.ONotNull, unary(api.ONotNull, a)), 1}, {unary(api.ONotNull, unary(api.ONot, a)), 2},
		{binary(api.OAnd, unary(api.ONot, a), unary(api.ONot, a)), 2}, // each is closed ahead of the next
		{binary(api.OAdd, caseOf(a, a), caseOf(a, a)), 1},
		{isIn(unary(api.ONot, a), a), 2}, {isIn(a, unary(api.ONot, a)), 2}, {isIn(a, caseOf(a, number(-1))), 2}, {isIn(number(-1), a), 1},
		{caseOf(a, a, caseOf(a, a)), 2}, {caseOf(a, caseOf(a, caseOf(a, a))), 3}, {caseOf(agg(api.ACount), a), 2},
		{agg(api.AMax, agg(api.AMin, agg(api.ASum, agg(api.ACount)))), 4},
		{binary(api.OAdd, binary(api.OAdd, binary(api.OAdd, a, a), a), a), 2},
	} {
		for place, x := range places(c.e) {
			if d := tree.Depth(x); d != c.deep {
				t.Errorf("P9.5: Depth: %d in place %d of %s, want %d", d, place, printed(t, x), c.deep)
			}
			readAgain(t, x)
		}
	}
}

// places tells statements with e at each place where nothing else is open.
func places(e api.Expr) []api.Stmt {
	x := query(col("a"))
	item, group, order, where, having, on := x, x, x, x, x, x
	item.Items = []api.Item{{Expr: col("a")}, {Expr: e}}
	group.Group = []api.Expr{e}
	order.Order = []api.Order{{Expr: e}}
	where.Where, having.Having = e, e
	on.From = []api.Source{{Name: "t"}, {Name: "t"}, {Name: "t", On: e}}
	on.From[1].On = col("a")
	set := api.Stmt{Kind: api.SUpdate, Name: "t", Sets: []api.Set{{Name: "a", Expr: e}}}
	return []api.Stmt{item, group, order, where, having, on, set, {Kind: api.SDelete, Name: "t", Where: e}}
}

// uses tells the fields that each kind has use for.
func uses(kind int) string {
	return [...]string{api.SCreate: "Table KeyCols", api.SIndex: "Index Name Cols Unique", api.SDrop: "Name", api.SUnindex: "Index", api.SInsert: "Name Cols Rows", api.SUpdate: "Name Sets Where", api.SDelete: "Name Where", api.SSelect: "Distinct Items From Where Group Having Order Limit"}[kind]
}

// TestWhatAKindHasNoUseFor: each such field of each kind with something in it, right or wrong; and with lists that are empty, not nil.
func TestWhatAKindHasNoUseFor(t *testing.T) {
	filled := full()
	told := api.Stmt{Where: api.Expr{At: 1}, Having: api.Expr{Type: 1}, Limit: -1, Cols: []string{""}, Rows: [][]api.Expr{nil}, KeyCols: [][]string{nil}, Sets: make([]api.Set, 1), Items: make([]api.Item, 1), From: make([]api.Source, 1), Group: make([]api.Expr, 1), Order: make([]api.Order, 1), Table: api.Table{Cols: make([]api.Column, 1)}, Name: "T", Index: "\x00"}
	args := api.Stmt{Where: api.Expr{Args: make([]api.Expr, 1)}, Having: api.Expr{Value: api.Value{Int: 1}}, Limit: 1, Table: api.Table{Keys: make([]api.Key, 1)}, Name: "select"}
	more := []api.Stmt{told, args, {Where: api.Expr{Name: "a"}, Having: api.Expr{Table: "a"}}, {Where: api.Expr{Op: 1}, Having: api.Expr{Type: -1}, Limit: math.MinInt64}, {Where: api.Expr{Kind: -1}, Having: api.Expr{Kind: 8}, Limit: math.MaxInt64, Table: api.Table{Name: "T"}}}
	filled = append(filled, more...)
	tried := 0
	for _, x := range full() {
		for _, from := range filled {
			to, v := reflect.ValueOf(&x).Elem(), reflect.ValueOf(from)
			for i := 1; i < v.NumField(); i++ {
				field := v.Type().Field(i).Name
				if strings.Contains(" "+uses(x.Kind)+" ", " "+field+" ") || v.Field(i).IsZero() {
					continue
				}
				was := reflect.New(to.Field(i).Type()).Elem()
				was.Set(to.Field(i))
				to.Field(i).Set(v.Field(i))
				holds(t, "P9.2: no use for "+field, x, false)
				to.Field(i).Set(was)
				tried++
			}
		}
	}
	if tried < 300 {
		t.Errorf("only %d tried", tried)
	}
	for _, x := range full() {
		v := reflect.ValueOf(&x).Elem()
		for i := range v.NumField() {
			if f := v.Field(i); f.Kind() == reflect.Slice && f.IsNil() {
				f.Set(reflect.MakeSlice(f.Type(), 0, 0))
			}
		}
		if x.Kind != api.SCreate {
			x.Table.Cols, x.Table.Keys = []api.Column{}, []api.Key{}
		}
		if x.Kind != api.SUpdate && x.Kind != api.SDelete && x.Kind != api.SSelect {
			x.Where.Args, x.Having.Args = []api.Expr{}, []api.Expr{}
		}
		holds(t, "P9.2: empty lists", x, true)
	}
}

func TestKinds(t *testing.T) {
	for _, x := range full() {
		for _, kind := range []int{0, -1, 9, 1 << 40} {
			other := x
			other.Kind = kind
			holds(t, "P9.2: Kind", other, false)
		}
	}
	for kind := -1; kind <= 9; kind++ {
		holds(t, "P9.2: nothing but a Kind", api.Stmt{Kind: kind}, false)
	}
	holds(t, "P9.2: nothing", api.Stmt{}, false)
}

// TestLists: each list of each kind with all numbers of elements.
func TestLists(t *testing.T) {
	a := col("a")
	for _, c := range []struct {
		list        string
		least, most int
		make        func(n int) api.Stmt
	}{
		{"columns of a table", 1, 10, func(n int) api.Stmt {
			return api.Stmt{Kind: api.SCreate, Table: api.Table{Name: "t", Cols: many(n, api.Column{Name: "a", Type: api.Int})}}
		}},
		{"keys of a table", 0, 10, func(n int) api.Stmt {
			x := full()[0]
			x.Table.Keys, x.KeyCols = many(n, api.Key{Unique: true}), many(n, []string{"a"})
			return x
		}},
		{"names of a key", 1, 10, func(n int) api.Stmt {
			x := full()[0]
			x.KeyCols[1] = many(n, "a")
			return x
		}},
		{"KeyCols of two keys", 2, 2, func(n int) api.Stmt {
			x := full()[0]
			x.KeyCols = many(n, []string{"a"})
			return x
		}},
		{"columns of an index", 1, 10, func(n int) api.Stmt {
			return api.Stmt{Kind: api.SIndex, Index: "i", Name: "t", Cols: many(n, "a")}
		}},
		{"columns of an INSERT", 0, 10, func(n int) api.Stmt {
			return api.Stmt{Kind: api.SInsert, Name: "t", Cols: many(n, "a"), Rows: [][]api.Expr{{a}}}
		}},
		{"rows", 1, 10, func(n int) api.Stmt {
			return api.Stmt{Kind: api.SInsert, Name: "t", Rows: many(n, []api.Expr{a})}
		}},
		{"elements of a row", 1, 10, func(n int) api.Stmt {
			return api.Stmt{Kind: api.SInsert, Name: "t", Rows: [][]api.Expr{{a}, many(n, a)}}
		}},
		{"sets", 1, 10, func(n int) api.Stmt {
			return api.Stmt{Kind: api.SUpdate, Name: "t", Sets: many(n, api.Set{Name: "a", Expr: a})}
		}},
		{"items", 1, 10, func(n int) api.Stmt {
			x := query(a)
			x.Items = many(n, api.Item{Expr: a})
			return x
		}},
		{"stars", 1, 10, func(n int) api.Stmt {
			x := query(a)
			x.Items = many(n, api.Item{Star: true})
			return x
		}},
		{"sources", 1, 3, func(n int) api.Stmt {
			x := query(a)
			x.From = many(n, api.Source{Name: "t", On: a})
			if n > 0 {
				x.From[0].On = api.Expr{}
			}
			return x
		}},
		{"GROUP BY", 0, 10, func(n int) api.Stmt {
			x := query(a)
			x.Group = many(n, a)
			return x
		}},
		{"ORDER BY", 0, 10, func(n int) api.Stmt {
			x := query(a)
			x.Order = many(n, api.Order{Expr: a})
			return x
		}},
	} {
		for n := range 25 {
			holds(t, "P9.2: "+c.list, c.make(n), n >= c.least && n <= c.most)
		}
	}
}

// TestNames: each name of each statement changed.
func TestNames(t *testing.T) {
	mayBeEmpty := func(path string) bool {
		return strings.Contains(path, ".Items[") || strings.HasSuffix(path, ".Alias") || strings.HasSuffix(path, ".Table")
	}
	tried := 0
	for n, x := range full() {
		for k, s := range spots(&x) {
			if s.v.Kind() != reflect.String || s.v.String() == "" || strings.HasSuffix(s.path, ".Text") {
				continue
			}
			for name, right := range map[string]bool{"b": true, "_9": true, strings.Repeat("z", 20): true, strings.Repeat("z", 21): false, "": mayBeEmpty(s.path) && !strings.HasSuffix(s.path, ".Expr.Name"), "B": false, "group": false, "7": false, "a b": false, "é": false} {
				other := deepCopy(full()[n])
				spots(&other)[k].v.SetString(name)
				holds(t, "P9.2: "+s.path+" "+name, other, right)
			}
			tried++
		}
	}
	if tried < 39 {
		t.Errorf("only %d names", tried)
	}
}

// TestExprsAreAsked: each expression of each statement changed into one that may not be.
func TestExprsAreAsked(t *testing.T) {
	tried := 0
	for n, x := range full() {
		for k, s := range spots(&x) {
			if !s.isExpr() || s.v.FieldByName("Kind").Int() == 0 {
				continue
			}
			for _, wrong := range []api.Expr{{At: 1}, {Type: 1}, {Kind: 8}, {Kind: api.ECol, Name: "a", At: 1}, {Kind: api.ECol, Name: "a", Type: 3}, unary(api.OEq, col("a")), {Kind: api.EValue, Value: api.Value{Kind: 4}}, {Args: []api.Expr{col("a")}}, {Value: api.Value{Int: 1}}} {
				other := full()[n]
				spots(&other)[k].v.Set(reflect.ValueOf(wrong))
				holds(t, "P9.2: "+s.path, other, false)
			}
			other := full()[n]
			spots(&other)[k].v.SetZero()
			holds(t, "P9.2: without "+s.path, other, s.path == ".Where" || s.path == ".Having")
			tried++
		}
	}
	if tried < 25 {
		t.Errorf("only %d expressions", tried)
	}
}

func TestSmallFaults(t *testing.T) {
	a := col("a")
	for _, c := range []struct {
		row    int
		what   string
		change func(x *api.Stmt)
		right  bool
	}{
		{0, "a type 0", func(x *api.Stmt) { x.Table.Cols[1].Type = api.Null }, false},
		{0, "a type 4", func(x *api.Stmt) { x.Table.Cols[1].Type = 4 }, false},
		{0, "a type -1", func(x *api.Stmt) { x.Table.Cols[0].Type = -1 }, false},
		{0, "a Bool", func(x *api.Stmt) { x.Table.Cols[0].Type = api.Bool }, true},
		{0, "a key with a name", func(x *api.Stmt) { x.Table.Keys[0].Name = "k" }, false},
		{0, "a key with columns", func(x *api.Stmt) { x.Table.Keys[0].Cols = []int{0} }, false},
		{0, "a key with an empty list", func(x *api.Stmt) { x.Table.Keys[0].Cols = []int{} }, true},
		{0, "Primary without Unique", func(x *api.Stmt) { x.Table.Keys[0].Unique = false }, false},
		{0, "neither Primary nor Unique", func(x *api.Stmt) { x.Table.Keys[1].Unique = false }, false},
		{0, "two Primary", func(x *api.Stmt) { x.Table.Keys[1].Primary = true }, true},
		{0, "none Primary", func(x *api.Stmt) { x.Table.Keys[0].Primary = false }, true},
		{0, "a key's column that isn't there", func(x *api.Stmt) { x.KeyCols[0][0] = "zz" }, true},
		{0, "KeyCols without Keys", func(x *api.Stmt) { x.Table.Keys = nil }, false},
		{0, "Keys without KeyCols", func(x *api.Stmt) { x.KeyCols = nil }, false},
		{0, "no keys", func(x *api.Stmt) { x.Table.Keys, x.KeyCols = nil, nil }, true},
		{1, "not Unique", func(x *api.Stmt) { x.Unique = false }, true},
		{4, "rows of unlike lengths", func(x *api.Stmt) { x.Rows[0] = x.Rows[0][:1] }, true},
		{5, "one column twice", func(x *api.Stmt) { x.Sets[1].Name = "a" }, true},
		{7, "a Star with a name", func(x *api.Stmt) { x.Items[0].Name = "x" }, false},
		{7, "a Star with an expression", func(x *api.Stmt) { x.Items[0].Expr = a }, false},
		{7, "a Star with an expression of no kind", func(x *api.Stmt) { x.Items[0].Expr.At = 1 }, false},
		{7, "a Star with an empty list", func(x *api.Stmt) { x.Items[0].Expr.Args = []api.Expr{} }, true},
		{7, "an item of nothing", func(x *api.Stmt) { x.Items[0].Star = false }, false},
		{7, "an item that is a Star, too", func(x *api.Stmt) { x.Items[1].Star = true }, false},
		{7, "On of the first", func(x *api.Stmt) { x.From[0].On = a }, false},
		{7, "On of the first of no kind", func(x *api.Stmt) { x.From[0].On.Type = 1 }, false},
		{7, "Left of the first", func(x *api.Stmt) { x.From[0].Left = true }, false},
		{7, "On of the first as an empty list", func(x *api.Stmt) { x.From[0].On.Args = []api.Expr{} }, true},
		{7, "no On of the second", func(x *api.Stmt) { x.From[1].On = api.Expr{} }, false},
		{7, "a join that isn't Left", func(x *api.Stmt) { x.From[1].Left = false }, true},
		{7, "Where of an empty list", func(x *api.Stmt) { x.Where = api.Expr{Args: []api.Expr{}} }, true},
		{7, "Limit -1", func(x *api.Stmt) { x.Limit = -1 }, true},
		{7, "Limit -2", func(x *api.Stmt) { x.Limit = -2 }, false},
		{7, "Limit, the least", func(x *api.Stmt) { x.Limit = math.MinInt64 }, false},
		{7, "Limit, the greatest", func(x *api.Stmt) { x.Limit = math.MaxInt64 }, true},
		{7, "one name for two", func(x *api.Stmt) { x.From[1].Alias = "u" }, true},
	} {
		x := full()[c.row]
		c.change(&x)
		holds(t, "P9.2: "+c.what, x, c.right)
	}
}

// TestStmtsByChance holds statements, and what they become by a change or two, against the second saying of the chapter.
func TestStmtsByChance(t *testing.T) {
	c := byChance(9)
	rights, wrongs := 0, 0
	for range 20000 {
		x := c.stmt(c(4))
		for range c(3) {
			c.spoil(&x)
		}
		if heldAgainstModel(t, x) {
			rights++
		} else {
			wrongs++
		}
	}
	if rights < 5000 || wrongs < 5000 {
		t.Errorf("%d that may be, %d that may not", rights, wrongs)
	}
}

// heldAgainstModel tells whether x may be.
func heldAgainstModel(t *testing.T, x api.Stmt) bool {
	t.Helper()
	right := modelIs(x)
	holds(t, "P9.2", x, right)
	if !right {
		return false
	}
	if s, want := printed(t, x), modelPrint(x); s != want {
		t.Fatalf("P9.3: %s, want %s", s, want)
	}
	if len(printed(t, x)) <= api.MaxSQL {
		readAgain(t, x)
	}
	return true
}

// FuzzTree takes its chances from bytes.
func FuzzTree(f *testing.F) {
	f.Add([]byte{7, 1, 2, 3, 4, 5, 6, 7, 8, 9})
	f.Add([]byte("a statement by these bytes"))
	f.Fuzz(func(t *testing.T, b []byte) {
		c := chance(func(n int) int {
			k := 0
			for room := n; room > 1 && len(b) > 0; room /= 256 {
				k, b = k<<8|int(b[0]), b[1:]
			}
			return k % n
		})
		x := c.stmt(c(4))
		for range c(3) {
			c.spoil(&x)
		}
		heldAgainstModel(t, x)
		if bare := tree.Bare(x); !tree.Same(x, bare) || !tree.Same(bare, bare) {
			t.Errorf("P9.5: Same: not Bare of itself: %+v", x)
		}
	})
}
