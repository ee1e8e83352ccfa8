package tree_test

import (
	"errors"
	"reflect"
	"slices"
	"strings"
	"testing"
	"unsafe"

	"consistory/api"
	"consistory/tree"
)

// roomy tells x with lists that have room behind them, and something in it.
func roomy(x api.Stmt) api.Stmt {
	x = deepCopy(x)
	c := byChance(3)
	for _, s := range slices.Backward(spots(&x)) { // a list is made anew behind what is in it
		if s.v.Kind() == reflect.Slice && s.v.Len() > 0 {
			n := s.v.Len()
			l := reflect.MakeSlice(s.v.Type(), n+2, n+2)
			reflect.Copy(l, s.v)
			l.Index(n).Set(s.v.Index(c(n)))
			l.Index(n + 1).Set(s.v.Index(c(n)))
			s.v.Set(l.Slice(0, n))
		}
	}
	return deepCopy(x)
}

// whole tells x with the room behind its lists as elements.
func whole(x api.Stmt) api.Stmt {
	x = deepCopy(x)
	for _, s := range spots(&x) {
		if s.v.Kind() == reflect.Slice {
			s.v.SetLen(s.v.Cap())
		}
	}
	return x
}

func TestArgumentsStayAsTheyAre(t *testing.T) {
	for _, x := range append(full(), everything()) {
		x := roomy(x)
		tell(&x)
		before := whole(x)
		tree.Is(x)
		tree.Print(x)
		tree.Depth(x)
		tree.Bare(x)
		tree.Same(x, x)
		tree.IsExpr(x.Where)
		tree.Expr(x.Where)
		if !equal(whole(x), before) {
			t.Errorf("rule 3: changed: %+v", x)
		}
		bare := tree.Bare(x)
		before = whole(bare)
		tree.Is(bare)
		tree.Print(bare)
		tree.Depth(bare)
		if !equal(whole(bare), before) {
			t.Errorf("rule 3: changed: %+v", bare)
		}
	}
}

// lists tells where each list of x begins and ends, its room with it.
func lists(x *api.Stmt) [][2]uintptr {
	var out [][2]uintptr
	for _, s := range spots(x) {
		if s.v.Kind() == reflect.Slice && s.v.Cap() > 0 {
			at := s.v.Pointer()
			out = append(out, [2]uintptr{at, at + uintptr(s.v.Cap())*s.v.Type().Elem().Size()})
		}
	}
	return out
}

func overlap(a, b [2]uintptr) bool { return a[0] < b[1] && b[0] < a[1] }

func TestBareIsNewMemory(t *testing.T) {
	x := roomy(everything())
	shared := x.Where.Args // one list at several places is several in the answer
	x.Having.Args, x.Group[0].Args, x.Rows[1] = shared, shared, x.Rows[0]
	a, b := tree.Bare(x), tree.Bare(x)
	own := lists(&a)
	if len(own) < 15 {
		t.Fatalf("only %d lists", len(own))
	}
	for i, l := range own {
		for k, other := range own {
			if i != k && overlap(l, other) {
				t.Errorf("rule 3: lists %d and %d share memory", i, k)
			}
		}
		for _, other := range append(lists(&x), lists(&b)...) {
			if overlap(l, other) {
				t.Errorf("rule 3: list %d is an argument's or another answer's", i)
			}
		}
	}
	theirs := spots(&x)
	for i, s := range spots(&a) {
		if s.v.Kind() == reflect.String && s.v.Len() > 0 && unsafe.StringData(s.v.String()) == unsafe.StringData(theirs[i].v.String()) {
			t.Errorf("rule 3: %s is an argument's", s.path)
		}
	}
	before, another := whole(x), whole(b)
	for _, s := range spots(&a) {
		if s.v.Kind() == reflect.Slice {
			s.v.SetLen(s.v.Cap())
			s.v.Clear()
		}
	}
	if !equal(whole(x), before) || !equal(whole(b), another) || !equal(tree.Bare(x), b) {
		t.Error("rule 3: what is done with an answer is seen elsewhere")
	}
}

// nested puts a column under n operators of each sort by turns.
func nested(n int, inside api.Expr) api.Expr {
	a := col("a")
	for i := range n {
		switch i % 5 {
		case 0:
			inside = unary(api.ONot, inside)
		case 1:
			inside = binary(api.OAdd, a, inside)
		case 2:
			inside = isIn(inside, a)
		case 3:
			inside = caseOf(a, a, inside)
		default:
			inside = unary(api.ONeg, inside)
		}
	}
	return inside
}

// TestDeep: parts nested as deep as the document's bound.
func TestDeep(t *testing.T) {
	const deep = 1 << 16
	e := nested(deep-2, col("a"))
	x := query(e)
	s := printed(t, x)
	if !tree.IsExpr(e) || strings.Count(s, "NOT ") != (deep-2+4)/5 || tree.Depth(x) < deep {
		t.Errorf("rule 8: Depth: %d of %d bytes", tree.Depth(x), len(s))
	}
	told := query(nested(deep-2, api.Expr{Kind: api.ECol, Name: "a", At: 1, Type: 2}))
	if !tree.Same(x, told) || tree.Same(x, query(nested(deep-2, col("b")))) || tree.Is(told) {
		t.Error("rule 8: Same")
	}
	s, err := tree.Print(told)
	if s != "" || !isForm(err) || len(err.Error()) > 200 {
		t.Errorf("rule 8: Print: %d bytes, %v", len(s), err)
	}
}

// TestLong: lists that are far too long end, too.
func TestLong(t *testing.T) {
	long := many(1<<17, col("a"))
	holdsExpr(t, "P9.1: far too many", isIn(long...), false)
	x := query(col("a"))
	x.Group = long
	if tree.Is(x) || tree.Depth(x) != 0 || !tree.Same(x, tree.Bare(x)) {
		t.Error("P9.2: far too many")
	}
	if s := strings.Repeat("a", 1<<20); tree.IsExpr(col(s)) || tree.IsExpr(text(s)) {
		t.Error("P9.1: far too long")
	}
}

// TestErrorsTellTheirPart: the clause, and the part in it that is wrong, however deep it is nested.
func TestErrorsTellTheirPart(t *testing.T) {
	a := col("a")
	for _, c := range []struct {
		row    int
		change func(x *api.Stmt)
		want   string
	}{
		{0, func(x *api.Stmt) { x.Table.Name = "" }, "table: name"},
		{0, func(x *api.Stmt) { x.Table.Cols[1].Type = 0 }, "columns: type"},
		{0, func(x *api.Stmt) { x.Table.Keys[1].Name = "k" }, "keys: name"},
		{0, func(x *api.Stmt) { x.Table.Keys[1].Unique = false }, "keys: UNIQUE"},
		{0, func(x *api.Stmt) { x.KeyCols[1][0] = "A" }, "keys' columns: name"},
		{1, func(x *api.Stmt) { x.Name = "A" }, "table: name"},
		{1, func(x *api.Stmt) { x.Cols = nil }, "columns"},
		{2, func(x *api.Stmt) { x.Name = "select" }, "table: name"},
		{2, func(x *api.Stmt) { *x = api.Stmt{} }, "kind"},
		{2, func(x *api.Stmt) { x.Unique = true }, "what its kind has no use for"},
		{3, func(x *api.Stmt) { x.Index = "" }, "index: name"},
		{4, func(x *api.Stmt) { x.Name = "9" }, "table: name"},
		{4, func(x *api.Stmt) { x.Cols[1] = "" }, "columns: name"},
		{4, func(x *api.Stmt) { x.Rows[0] = nil }, "VALUES"},
		{5, func(x *api.Stmt) { x.Sets[0].Name = "" }, "SET: name"},
		{6, func(x *api.Stmt) { x.Where.Op = 1 }, "WHERE: operator"},
		{7, func(x *api.Stmt) { x.Items[0].Name = "a" }, "items: *"},
		{7, func(x *api.Stmt) { x.From[0].Alias = "A" }, "FROM: name"},
		{7, func(x *api.Stmt) { x.From[0].Left = true }, "JOIN: first"},
		{7, func(x *api.Stmt) { x.From[1].On.Kind = 0 }, "JOIN: kind"},
		{7, func(x *api.Stmt) { x.Where = nested(50, unary(api.OEq, a)) }, "WHERE: operator"},
		{7, func(x *api.Stmt) { x.Group[0].At = 1 }, "GROUP BY: what resolve tells"},
		{7, func(x *api.Stmt) { x.Having = isIn(a) }, "HAVING: arguments"},
		{7, func(x *api.Stmt) { x.Order[1].Expr = api.Expr{Kind: api.EValue, Value: api.Value{Kind: 9}} }, "ORDER BY: value"},
		{7, func(x *api.Stmt) { x.Limit = -2 }, "LIMIT"},
	} {
		x := full()[c.row]
		c.change(&x)
		_, err := tree.Print(x)
		if !isForm(err) || err.Error() != c.want+": class 20" {
			t.Errorf("%v, want %s", err, c.want)
		}
		var w *api.Within
		if clause, _, _ := strings.Cut(c.want, ": "); !errors.As(err, &w) || w.Part != clause {
			t.Errorf("%v: not within %s", err, clause)
		}
	}
}
