package machine_test

import (
	"bytes"
	"cmp"
	"errors"
	"slices"
	"testing"

	"consistory/api"
	"consistory/change"
	"consistory/exec"
	"consistory/machine"
	"consistory/parse"
	"consistory/table"
)

// A second saying of the chapter.

// session: of a client its last command's Reply, which has the Seq.
type session struct {
	client uint64
	reply  api.Reply
}

// model: a machine as a list of sessions, in any order, and a store.
type model struct {
	index    uint64
	sessions []session
	store    *table.Store
}

func classOf(err error) api.Class {
	for _, c := range classes {
		if errors.Is(err, c) {
			return c
		}
	}
	return 0
}

// isSelect: whether sql parses as one.
func isSelect(sql string) bool {
	x, err := parse.Parse(sql)
	return err == nil && x.Kind == api.SSelect
}

// of tells the number of a client's session, or -1.
func (x *model) of(client uint64) int {
	return slices.IndexFunc(x.sessions, func(s session) bool { return s.client == client })
}

func (x *model) apply(e api.Entry) api.Reply {
	x.index++
	if e.Kind != api.EnCommand {
		return api.Reply{}
	}
	n := x.of(e.Client)
	if n >= 0 && e.Seq == x.sessions[n].reply.Seq {
		return x.sessions[n].reply
	}
	if n >= 0 && e.Seq < x.sessions[n].reply.Seq {
		return api.Reply{Seq: e.Seq, Class: api.ErrBusy, Index: x.index}
	}
	r := api.Reply{Seq: e.Seq, Index: x.index}
	if isSelect(e.Sql) {
		r.Class = api.ErrForm
	} else {
		a, err := change.Run(x.store, e.Sql)
		r.Class, r.Answer = classOf(err), a
	}
	if n < 0 {
		n = len(x.sessions)
		x.sessions = append(x.sessions, session{client: e.Client})
	}
	x.sessions[n].reply = r
	return r
}

func (x *model) query(sql string) api.Reply {
	s, err := parse.Parse(sql)
	var a api.Answer
	switch {
	case err != nil:
	case s.Kind != api.SSelect:
		err = api.ErrForm
	default:
		a, err = exec.Query(x.store, s)
	}
	return api.Reply{Class: classOf(err), Answer: a, Index: x.index}
}

func (x *model) seen(client uint64) (uint64, bool) {
	if n := x.of(client); n >= 0 {
		return x.sessions[n].reply.Seq, true
	}
	return 0, false
}

// parts: what a dump is of; it may be of no machine.
type parts struct {
	Index    uint64
	Sessions []part
	Schema   api.Schema
	Bits     [][]byte // of the tables' keys, if they aren't what the keys are
	Data     api.Data
}

// part: a session.
type part struct{ Client, Seq, Class, Count, Index uint64 }

func (x *model) parts() parts {
	out := parts{Index: x.index, Schema: x.store.Schema(), Data: x.store.Data()}
	for _, s := range x.sessions {
		out.Sessions = append(out.Sessions, part{s.client, s.reply.Seq, uint64(s.reply.Class), uint64(s.reply.Answer.Count), s.reply.Index})
	}
	slices.SortFunc(out.Sessions, func(a, b part) int { return cmp.Compare(a.Client, b.Client) })
	return out
}

func (x *model) dump() []byte { return x.parts().dump() }

// pen writes bytes.
type pen []byte

func (p *pen) uints(l ...uint64) {
	for _, n := range l {
		for ; n > 127; n /= 128 {
			*p = append(*p, byte(128+n%128))
		}
		*p = append(*p, byte(n))
	}
}

func (p *pen) ints(l ...int) {
	for _, n := range l {
		p.uints(uint64(n))
	}
}

func (p *pen) text(s string) {
	p.ints(len(s))
	*p = append(*p, s...)
}

func (p *pen) truth(ok bool) {
	if ok {
		*p = append(*p, 1)
	} else {
		*p = append(*p, 0)
	}
}

func (p *pen) value(v api.Value) {
	*p = append(*p, byte(v.Kind))
	switch v.Kind {
	case api.Bool:
		*p = append(*p, byte(v.Int))
	case api.Int:
		n := 2 * uint64(v.Int)
		if v.Int < 0 {
			n = -n - 1
		}
		p.uints(n)
	case api.Text:
		p.text(v.Text)
	}
}

func (x parts) dump() []byte {
	var p pen
	p.uints(x.Index)
	p.ints(len(x.Sessions))
	for _, s := range x.Sessions {
		p.uints(s.Client, s.Seq, s.Class, s.Count, s.Index)
	}
	p.ints(len(x.Schema.Tables))
	for i, t := range x.Schema.Tables {
		p.text(t.Name)
		p.ints(len(t.Cols))
		for _, c := range t.Cols {
			p.text(c.Name)
			p = append(p, byte(c.Type))
			p.truth(c.NotNull)
		}
		p.ints(len(t.Keys))
		for _, k := range t.Keys {
			p.text(k.Name)
			p = append(p, bits(k))
			p.ints(len(k.Cols))
			p.ints(k.Cols...)
		}
		p.uints(x.Data.Next[i])
		p.ints(len(x.Data.Rows[i]))
		for _, r := range x.Data.Rows[i] {
			p.uints(r.Id)
			p.ints(len(r.Vals))
			for _, v := range r.Vals {
				p.value(v)
			}
		}
	}
	return p
}

func bits(k api.Key) byte {
	var b byte
	if k.Unique {
		b = 1
	}
	if k.Primary {
		b += 2
	}
	return b
}

// glass reads bytes; it panics where there are none.
type glass []byte

func (g *glass) byte() byte {
	b := (*g)[0]
	*g = (*g)[1:]
	return b
}

// uint reads one that may have bytes too many, or be too great: written again it is others.
func (g *glass) uint() uint64 {
	var n uint64
	for shift := 0; ; shift += 7 {
		b := g.byte()
		n += uint64(b%128) << shift
		if b < 128 {
			return n
		}
	}
}

func (g *glass) text() string {
	n := g.uint()
	s := string((*g)[:n])
	*g = (*g)[n:]
	return s
}

func (g *glass) value() api.Value {
	v := api.Value{Kind: int(g.byte())}
	switch v.Kind {
	case api.Bool:
		v.Int = int64(g.byte())
	case api.Int:
		n := g.uint()
		if v.Int = int64(n / 2); n%2 == 1 {
			v.Int = -v.Int - 1
		}
	case api.Text:
		v.Text = g.text()
	}
	return v
}

func (g *glass) table() api.Table {
	t := api.Table{Name: g.text()}
	for range g.uint() {
		t.Cols = append(t.Cols, api.Column{Name: g.text(), Type: int(g.byte()), NotNull: g.byte() == 1})
	}
	for range g.uint() {
		k := api.Key{Name: g.text()}
		b := g.byte()
		k.Unique, k.Primary = b == 1 || b == 3, b == 2 || b == 3
		for range g.uint() {
			k.Cols = append(k.Cols, int(g.uint()))
		}
		t.Keys = append(t.Keys, k)
	}
	return t
}

// undump reads the parts whose dump b is; false, if there are none.
func undump(b []byte) (x parts, ok bool) {
	defer func() {
		if recover() != nil {
			x, ok = parts{}, false
		}
	}()
	g := glass(b)
	x.Index = g.uint()
	for range g.uint() {
		x.Sessions = append(x.Sessions, part{g.uint(), g.uint(), g.uint(), g.uint(), g.uint()})
	}
	for i := range g.uint() {
		x.Schema.Tables = append(x.Schema.Tables, g.table())
		x.Data.Next = append(x.Data.Next, g.uint())
		x.Data.Rows = append(x.Data.Rows, nil)
		for range g.uint() {
			r := api.Row{Id: g.uint()}
			for range g.uint() {
				r.Vals = append(r.Vals, g.value())
			}
			x.Data.Rows[i] = append(x.Data.Rows[i], r)
		}
	}
	return x, bytes.Equal(x.dump(), b)
}

// model tells the machine that has these parts, if there is one.
func (x parts) model() (*model, bool) {
	m := &model{index: x.Index}
	for i, s := range x.Sessions {
		if i > 0 && s.Client <= x.Sessions[i-1].Client || s.Index < 1 || s.Index > x.Index || s.Class > 100 || s.Count > 60 {
			return nil, false
		}
		r := api.Reply{Seq: s.Seq, Class: api.Class(s.Class), Answer: api.Answer{Count: int(s.Count)}, Index: s.Index}
		m.sessions = append(m.sessions, session{s.Client, r})
	}
	store, err := table.Of(x.Schema, x.Data)
	m.store = store
	return m, err == nil
}

// load tells the model of which dump tells just b, if there is one.
func load(b []byte) (*model, bool) {
	x, ok := undump(b)
	if !ok {
		return nil, false
	}
	return x.model()
}

// pair: a machine, and what it must be.
type pair struct {
	m *machine.Machine
	x *model
}

func fresh() pair { return pair{machine.New(), &model{store: table.New()}} }

// apply holds Apply against the model: what is replied, and the machine behind it: P18.1.
func (p pair) apply(t *testing.T, e api.Entry) api.Reply {
	t.Helper()
	was := p.m.Dump()
	got, want := p.m.Apply(e), p.x.apply(e)
	if !equal(got, want) {
		t.Fatalf("P18.1: %+v: %s, want %s, of %x", e, say(got), say(want), was)
	}
	p.hold(t)
	return got
}

// query holds Query against the model, and that nothing changes: P18.2.
func (p pair) query(t *testing.T, sql string) api.Reply {
	t.Helper()
	was := p.m.Dump()
	got, want := p.m.Query(sql), p.x.query(sql)
	if !equal(ordered(sql, got), ordered(sql, want)) {
		t.Fatalf("P18.2: %q: %s, want %s, of %x", sql, say(got), say(want), was)
	}
	if !bytes.Equal(p.m.Dump(), was) {
		t.Fatalf("P18.2: %q: the machine has changed", sql)
	}
	return got
}

// ordered tells r with its rows in one order, if none is asked for.
func ordered(sql string, r api.Reply) api.Reply {
	x, err := parse.Parse(sql)
	if err != nil || len(x.Order) > 0 {
		return r
	}
	r = deepCopy(r)
	slices.SortFunc(r.Answer.Rows, func(a, b []api.Value) int { return cmp.Compare(sayValues(a, ", "), sayValues(b, ", ")) })
	return r
}

// hold holds all that the machine tells of itself against the model.
func (p pair) hold(t *testing.T) {
	t.Helper()
	if p.m.Index() != p.x.index {
		t.Fatalf("P18.1: Index %d, want %d", p.m.Index(), p.x.index)
	}
	if got, want := stateOf(p.m), (state{p.x.store.Schema(), p.x.store.Data()}); !equal(got, want) {
		t.Fatalf("P18.1: %s, want %s", got.say(), want.say())
	}
	if got, want := p.m.Dump(), p.x.dump(); !bytes.Equal(got, want) {
		t.Fatalf("P18.3: %x, want %x", got, want)
	}
	clients := []uint64{0, 1, 7, 8, 1<<64 - 1}
	for _, s := range p.x.sessions {
		clients = append(clients, s.client, s.client+1)
	}
	for _, c := range clients {
		got, ok := p.m.Seen(c)
		if want, there := p.x.seen(c); got != want || ok != there {
			t.Fatalf("P18.2: Seen(%d): %d, %v, want %d, %v", c, got, ok, want, there)
		}
	}
}

// again tells the machine that is loaded of this one's dump, and what it must be.
func (p pair) again(t *testing.T) pair {
	t.Helper()
	m := loaded(t, p.m.Dump())
	if m == nil {
		t.Fatalf("P18.4: %x is refused", p.m.Dump())
	}
	x, ok := load(p.m.Dump())
	if !ok {
		t.Fatalf("P18.3: %x may not be", p.m.Dump())
	}
	out := pair{m, x}
	out.hold(t)
	return out
}

// holdLoad holds Load against the model.
func holdLoad(t *testing.T, b []byte) (pair, bool) {
	t.Helper()
	m := loaded(t, b)
	x, ok := load(b)
	if (m != nil) != ok {
		t.Fatalf("P18.3: %x: loaded: %v, want %v", b, m != nil, ok)
	}
	if ok {
		pair{m, x}.hold(t)
	}
	return pair{m, x}, ok
}
