package table_test

import (
	"fmt"
	"math"
	"reflect"
	"strings"
	"testing"

	"consistory/api"
	"consistory/catalog"
	"consistory/table"
)

// value makes one of kind, or a Null; now and then one of another kind, or one that may not be.
func (c chance) value(kind int) api.Value {
	switch c(60) {
	case 0:
		return pick(c, wrongValues...)
	case 1:
		kind = 1 + c(3)
	case 2, 3, 4, 5, 6, 7:
		return null
	}
	switch kind {
	case api.Bool:
		return truth(c(2) == 0)
	case api.Int:
		return num(pick[int64](c, 0, 1, 2, 3, 4, 5, -1, -2, 255, 256, -256, math.MaxInt64, math.MinInt64))
	}
	return text(pick(c, "", "a", "b", "aa", "ab", "a\x01", "\x01", "'", "\xff", "\xff\xff", strings.Repeat("a", api.MaxText), strings.Repeat("a", api.MaxText-1)))
}

// free makes a value of kind that is seldom there already.
func (c chance) free(kind int) api.Value {
	switch kind {
	case api.Int:
		return num(int64(c(1 << 16)))
	case api.Text:
		return text(fmt.Sprint(c(1 << 16)))
	}
	return c.value(kind)
}

func (c chance) vals(t api.Table) []api.Value {
	var l []api.Value
	fresh := c(2) == 0
	for _, col := range t.Cols {
		v := c.value(col.Type)
		if fresh || v.Kind == api.Null && col.NotNull && c(4) > 0 {
			v = c.free(col.Type)
		}
		l = append(l, v)
	}
	if c(200) == 0 {
		return pick(c, nil, l[1:], append(l, null))
	}
	return l
}

func some[T any](c chance, most int, one func() T) []T {
	l := make([]T, c(most+1))
	for i := range l {
		l[i] = one()
	}
	return l
}

// writing: what Write is handed.
type writing struct {
	i    int
	ups  []api.Row
	gone []uint64
	made [][]api.Value
}

// number tells that of a table that is there, mostly.
func (c chance) number(m *model) int {
	if n := len(m.s.Tables); n > 0 && c(40) > 0 {
		return c(pick(c, 1, n)) // the first one has most of the rows
	}
	return pick(c, -1, len(m.s.Tables), math.MaxInt, math.MinInt)
}

func (c chance) writing(m *model) writing {
	w := writing{i: c.number(m)}
	if w.i < 0 || w.i >= len(m.s.Tables) {
		return w
	}
	t, ids := m.s.Tables[w.i], []uint64{}
	for _, r := range m.d.Rows[w.i] {
		ids = append(ids, r.Id)
	}
	id := func() uint64 { // each Id once, mostly
		if len(ids) == 0 || c(50) == 0 {
			return pick(c, 0, 1, 2, m.d.Next[w.i], 1<<63+1, math.MaxUint64)
		}
		k := c(len(ids))
		one := ids[k]
		ids = append(ids[:k], ids[k+1:]...)
		return one
	}
	few := min(len(ids), pick(c, 0, 1, 2, 4))
	w.ups = some(c, few, func() api.Row { return api.Row{Id: id(), Vals: c.vals(t)} })
	w.gone = some(c, min(len(ids), pick(c, 0, 0, 1, 2, 4)), id)
	w.made = some(c, pick(c, 0, 1, 1, 2, 3, 20), func() []api.Value { return c.vals(t) })
	if len(w.ups) > 1 && c(3) == 0 { // two rows change places
		for k := range w.ups {
			for _, r := range m.d.Rows[w.i] {
				if r.Id == w.ups[(k+1)%len(w.ups)].Id {
					w.ups[k].Vals = r.Vals
				}
			}
		}
	}
	return w
}

// way makes one of what is there, mostly; now and then one that may not be.
func (c chance) way(t api.Table, l []api.Row) api.Way {
	w := api.Way{Key: c(len(t.Keys)+1) - 1}
	if c(20) == 0 {
		w.Key = pick(c, -2, len(t.Keys), math.MaxInt, math.MinInt)
	}
	one := func(n int) api.Value {
		if n >= 0 && len(l) > 0 && c(4) > 0 {
			return l[c(len(l))].Vals[n]
		}
		return c.value(1 + c(3))
	}
	var cols []int
	if w.Key >= 0 && w.Key < len(t.Keys) {
		cols = t.Keys[w.Key].Cols
	}
	cols = append(append([]int(nil), cols...), -1)
	k := 0
	for w.Key != -1 && k < len(cols)-1 && c(3) > 0 || c(30) == 0 && k < len(cols) {
		w.Eq = append(w.Eq, one(cols[k]))
		k++
	}
	bounds := w.Key != -1 && k < len(cols)-1
	k = min(k, len(cols)-1)
	if bounds && c(2) == 0 || c(40) == 0 {
		w.Lo, w.HasLo = one(cols[k]), true
	}
	if bounds && c(2) == 0 || c(40) == 0 {
		w.Hi, w.HasHi = one(cols[k]), true
	}
	if c(30) == 0 {
		w.Lo = one(-1)
	}
	if c(30) == 0 {
		w.Hi = one(-1)
	}
	return w
}

// definition makes one of a few names, so that it fits now and then.
func (c chance) definition(m *model) api.Stmt {
	name := pick(c, "t", "u", "v", "w", "x", "y", "z")
	if n := len(m.s.Tables); n > 0 && c(2) == 0 {
		name = m.s.Tables[c(n)].Name
	}
	var t api.Table
	if i := catalog.Find(m.s, name); i >= 0 {
		t = m.s.Tables[i]
	}
	switch c(20) {
	case 0:
		return api.Stmt{Kind: api.SDrop, Name: name}
	case 1, 2, 3, 4:
		return api.Stmt{Kind: api.SUnindex, Index: pick(c, "i", "j", "k", "l", "m", "n", "o")}
	case 5, 6, 7, 8, 9, 10, 11, 12:
		x := api.Stmt{Kind: api.SIndex, Index: pick(c, "i", "j", "k", "l", "m", "n", "o"), Name: name, Unique: c(2) == 0}
		for range 1 + c(pick(c, 1, 2, 3)) {
			x.Cols = append(x.Cols, string(rune('a'+c(max(1, len(t.Cols))))))
		}
		return x
	case 13:
		return pick(c, api.Stmt{}, api.Stmt{Kind: api.SDelete, Name: name}, api.Stmt{Kind: api.SDrop}, api.Stmt{Kind: 9})
	}
	x := api.Stmt{Kind: api.SCreate, Table: api.Table{Name: name}}
	for k := range 1 + c(4) {
		x.Table.Cols = append(x.Table.Cols, api.Column{Name: string(rune('a' + k)), Type: 1 + c(3), NotNull: c(4) == 0})
	}
	for k := range c(3) {
		x.Table.Keys = append(x.Table.Keys, api.Key{Unique: true, Primary: k == 0 && c(2) == 0})
		var cols []string
		for range 1 + c(2) {
			cols = append(cols, x.Table.Cols[c(len(x.Table.Cols))].Name)
		}
		x.KeyCols = append(x.KeyCols, cols)
	}
	return x
}

// pair: stores that came to be in different ways, and what they must be.
type pair struct {
	stores []*table.Store
	m      model
}

// check: all stores are what the model is.
func (p *pair) check(t *testing.T, c chance) {
	t.Helper()
	want := showAll(p.m.s, p.m.d)
	for k, x := range p.stores {
		if got := show(x); got != want {
			t.Fatalf("P12.5: store %d: %s, want %s", k, got, want)
		}
		if !catalog.Same(x.Schema(), p.m.s) || !isData(x.Schema(), x.Data()) {
			t.Fatalf("P12.1: store %d: no data: %s", k, want)
		}
	}
	for range 3 {
		i := c.number(&p.m)
		w := c.way(api.Table{}, nil)
		if i >= 0 && i < len(p.m.s.Tables) {
			w = c.way(p.m.s.Tables[i], p.m.d.Rows[i])
		}
		p.checkWay(t, i, w)
	}
}

func (p *pair) checkWay(t *testing.T, i int, w api.Way) {
	t.Helper()
	want, wrong := p.m.rows(i, w)
	for k, x := range p.stores {
		got, err := x.Rows(i, w)
		if class(t, err) != wrong || len(got) != len(want) || len(want) > 0 && !reflect.DeepEqual(got, want) {
			t.Fatalf("P12.4: store %d: %+v of table %d of %s: %v, %v, want %v, class %d", k, w, i, show(x), got, err, want, wrong)
		}
		if i >= 0 && i < len(p.m.d.Rows) && x.Count(i) != len(p.m.d.Rows[i]) {
			t.Fatalf("P12.1: store %d: Count(%d): %d", k, i, x.Count(i))
		}
	}
}

// step does one thing to all stores and the model, and tells what was tried: what it was, and its class.
func (p *pair) step(t *testing.T, c chance) string {
	t.Helper()
	if c(12) == 0 || len(p.m.s.Tables) == 0 {
		s := c.definition(&p.m)
		want := p.m.define(s)
		for k, x := range p.stores {
			if got := define(t, x, s); got != want {
				t.Fatalf("P12.2: store %d: %+v of %s: class %d, want %d", k, s, show(x), got, want)
			}
		}
		return fmt.Sprint("define ", int(want))
	}
	w := c.writing(&p.m)
	want := p.m.write(w.i, w.ups, w.gone, w.made)
	for k, x := range p.stores {
		if got := write(t, x, w.i, w.ups, w.gone, w.made); got != want {
			t.Fatalf("P12.3: store %d: %+v of %s: class %d, want %d", k, w, show(x), got, want)
		}
	}
	return fmt.Sprint("write ", int(want))
}

// part puts in the place of one store a clone of another one, or one that Of makes.
func (p *pair) part(t *testing.T, c chance) {
	t.Helper()
	k, from := c(len(p.stores)), pick(c, p.stores...)
	if c(2) == 0 {
		p.stores[k] = from.Clone()
		return
	}
	x, err := table.Of(from.Schema(), from.Data())
	if err != nil {
		t.Fatalf("P12.1: %s: %v", show(from), err)
	}
	p.stores[k] = x
}

// ends moves the Next of a table towards its end.
func (p *pair) ends(t *testing.T, c chance) {
	t.Helper()
	if len(p.m.s.Tables) == 0 {
		return
	}
	p.m.d.Next[c(len(p.m.d.Next))] = 1<<62 - uint64(c(40))
	if !isData(p.m.s, p.m.d) {
		return
	}
	for k := range p.stores {
		x, err := table.Of(p.m.s, p.m.d)
		if err != nil {
			t.Fatalf("P12.1: %s: %v", showAll(p.m.s, p.m.d), err)
		}
		p.stores[k] = x
	}
}

// TestByChance: stores one step behind the other, as the model has them; and of each step what has been left stays.
func TestByChance(t *testing.T) {
	tried := map[string]int{}
	for seed := range int64(150) {
		c := byChance(seed)
		p := &pair{stores: []*table.Store{table.New(), table.New(), {}}}
		var left []*table.Store
		var shown []string
		for n := range 80 {
			if c(4) == 0 {
				p.part(t, c)
			}
			if n == 60 && seed%5 == 0 {
				p.ends(t, c)
			}
			if c(10) == 0 {
				left, shown = append(left, p.stores[0].Clone()), append(shown, show(p.stores[0]))
			}
			tried[p.step(t, c)]++
			p.check(t, c)
		}
		for k, x := range left {
			if got := show(x); got != shown[k] {
				t.Fatalf("P12.1: a clone has become %s, it was %s", got, shown[k])
			}
		}
	}
	for _, want := range []string{"define 0", "define 3", "define 5", "define 20", "write 0", "write 2", "write 5", "write 20", "write 40"} {
		if tried[want] < 15 {
			t.Errorf("too little is tried: %s: %d", want, tried[want])
		}
	}
}

// spoil changes one place of what x points to, so that it may not be any more, or may be all the same.
func (c chance) spoil(x any) {
	v := pick(c, spots(x)...).v
	switch v.Kind() {
	case reflect.Int, reflect.Int64:
		v.SetInt(pick(c, 0, 1, -1, v.Int()+1, v.Int()-1, 2, 3))
	case reflect.Uint64:
		v.SetUint(pick(c, 0, 1, v.Uint()+1, v.Uint()-1, 1<<62, 1<<62+1, math.MaxUint64))
	case reflect.Bool:
		v.SetBool(!v.Bool())
	case reflect.String:
		v.SetString(pick(c, "", "a", "b", v.String()+"\x00"))
	case reflect.Slice:
		n := v.Len()
		switch {
		case n > 0 && c(2) == 0:
			v.Set(v.Slice(0, n-1))
		case n > 0:
			v.Set(reflect.Append(v, v.Index(c(n))))
		default:
			v.Set(reflect.Append(v, reflect.New(v.Type().Elem()).Elem()))
		}
	}
}

// TestOfByChance: what Of takes is just what is data.
func TestOfByChance(t *testing.T) {
	taken, refused := 0, 0
	for seed := range int64(150) {
		c := byChance(seed)
		p := &pair{stores: []*table.Store{table.New()}}
		for range 40 {
			p.step(t, c)
			s, d := deepCopy(p.m.s), deepCopy(p.m.d)
			if c(4) == 0 {
				c.spoil(&s)
			} else {
				c.spoil(&d)
			}
			right := catalog.Is(s) && isData(s, d)
			got := of(t, s, d)
			if right != (got != "class 20") || right && got != showAll(s, d) {
				t.Fatalf("P12.1: %+v, %+v: %s", s, d, got)
			}
			if right {
				taken++
			} else {
				refused++
			}
		}
	}
	if taken < 500 || refused < 500 {
		t.Errorf("too little is tried: %d, %d", taken, refused)
	}
}

// FuzzStore: bytes say what chance would.
func FuzzStore(f *testing.F) {
	f.Add([]byte("\x0e\x00\x03\x01\x02\x00\x00\x05\x01\x02\x03"))
	f.Add([]byte(strings.Repeat("\x01\x0e\x07\x03\x05\x02\x0b", 40)))
	f.Fuzz(func(t *testing.T, b []byte) {
		c := chance(func(n int) int {
			if len(b) == 0 {
				return 0
			}
			k := int(b[0]) % n
			b = b[1:]
			return k
		})
		p := &pair{stores: []*table.Store{table.New(), table.New()}}
		for n := 0; len(b) > 0 && n < 200; n++ {
			p.part(t, c)
			p.step(t, c)
			p.check(t, c)
		}
	})
}
