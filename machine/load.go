package machine

import (
	"errors"

	"consistory/api"
	"consistory/table"
	"consistory/wire"
)

// maxClass: of a session, at most.
const maxClass = 100

// Load: the machine of which Dump tells just b.
func Load(b []byte) (*Machine, error) {
	r := reader{b: b}
	var m Machine
	m.index = r.number()
	m.sessions = r.sessions(m.index)
	s, d := r.tables()
	if r.at < len(b) {
		r.fail(r.at, api.ErrForm)
	}
	if r.err != nil {
		return nil, r.err
	}
	t, err := table.Of(s, d)
	if err != nil {
		return nil, &api.Within{Part: "tables", Err: err}
	}
	m.store = *t
	return &m, nil
}

// reader goes over a dump; behind its first fault it reads zeros.
type reader struct {
	b   []byte
	at  int
	err error
}

// fail keeps the first fault, with the place at which what is wrong begins. Bytes that end within are no machine's, either.
func (r *reader) fail(at int, err error) {
	if r.err != nil {
		return
	}
	if errors.Is(err, api.ErrShort) {
		err = api.ErrForm
	}
	r.err = &api.Placed{At: at, Err: err}
}

// next reads what stands next, by a reader of wire.
func next[T any](r *reader, get func([]byte) (T, int, error)) T {
	var none T
	if r.err != nil {
		return none
	}
	x, size, err := get(r.b[r.at:])
	if err != nil {
		r.fail(r.at, err)
		return none
	}
	r.at += size
	return x
}

func (r *reader) number() uint64 { return next(r, wire.Uint) }

// between reads a number from least to most; behind a fault it tells 0.
func (r *reader) between(least, most uint64) uint64 {
	at := r.at
	n := r.number()
	if n < least || n > most {
		r.fail(at, api.ErrForm)
		return 0
	}
	return n
}

// upTo reads a number of at most most.
func (r *reader) upTo(most int) int { return int(r.between(0, uint64(most))) }

func (r *reader) text() string { return next(r, wire.Text) }

// listOf reads how many there are, at most most, and each of them.
func listOf[T any](r *reader, most int, get func() T) []T {
	var l []T
	for range r.upTo(most) {
		l = append(l, get())
	}
	return l
}

// sessions reads those of a machine of that Index. How many there are is believed only as they come.
func (r *reader) sessions(index uint64) map[uint64]api.Reply {
	l := map[uint64]api.Reply{}
	var last uint64
	for i := range r.number() {
		at := r.at
		client := r.number()
		if i > 0 && client <= last {
			r.fail(at, api.ErrForm)
		}
		x := r.session(index)
		if r.err != nil {
			return nil
		}
		l[client], last = x, client
	}
	return l
}

func (r *reader) session(index uint64) api.Reply {
	var x api.Reply
	x.Seq = r.number()
	x.Class = api.Class(r.upTo(maxClass))
	x.Answer.Count = r.upTo(api.MaxRows)
	x.Index = r.between(1, index)
	return x
}

// tables reads definitions, and what is in each table.
func (r *reader) tables() (api.Schema, api.Data) {
	var d api.Data
	l := listOf(r, api.MaxTables, func() api.Table {
		t := api.Table{Name: r.text(), Cols: listOf(r, api.MaxCols, r.column), Keys: listOf(r, api.MaxKeys, r.key)}
		d.Next = append(d.Next, r.number())
		d.Rows = append(d.Rows, listOf(r, api.MaxRows, r.row))
		return t
	})
	return api.Schema{Tables: l}, d
}

func (r *reader) column() api.Column {
	return api.Column{Name: r.text(), Type: r.upTo(api.Text), NotNull: r.upTo(1) == 1}
}

func (r *reader) key() api.Key {
	k := api.Key{Name: r.text()}
	at := r.at
	switch r.upTo(uniqueKey + primaryKey) {
	case uniqueKey + primaryKey:
		k.Primary = true
		fallthrough
	case uniqueKey:
		k.Unique = true
	case primaryKey: // but not unique
		r.fail(at, api.ErrForm)
	}
	k.Cols = listOf(r, api.MaxCols, func() int { return r.upTo(api.MaxCols - 1) })
	return k
}

func (r *reader) row() api.Row {
	return api.Row{Id: r.number(), Vals: next(r, wire.Row)}
}
