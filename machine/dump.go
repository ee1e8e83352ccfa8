package machine

import (
	"maps"
	"slices"

	"consistory/api"
	"consistory/wire"
)

// Bits of the byte that tells what a key is.
const (
	uniqueKey  = 1
	primaryKey = 2
)

// Dump: the machine as bytes, the same ones for all that are alike.
func (m *Machine) Dump() []byte {
	var w writer
	w.number(m.index)
	w.count(len(m.sessions))
	for _, client := range slices.Sorted(maps.Keys(m.sessions)) {
		w.number(client)
		w.session(m.sessions[client])
	}
	s, d := m.store.Schema(), m.store.Data()
	w.count(len(s.Tables))
	for i, t := range s.Tables {
		w.table(t)
		w.number(d.Next[i])
		w.rows(d.Rows[i])
	}
	return w.b
}

// writer gathers bytes.
type writer struct{ b []byte }

func (w *writer) put(b []byte) { w.b = append(w.b, b...) }

func (w *writer) number(n uint64) { w.put(wire.PutUint(n)) }

// count writes a number that is not below 0; one below 128 is a byte.
func (w *writer) count(n int) { w.number(uint64(n)) }

func (w *writer) text(s string) { w.put(wire.PutText(s)) }

func (w *writer) session(r api.Reply) {
	w.number(r.Seq)
	w.count(int(r.Class))
	w.count(r.Answer.Count)
	w.number(r.Index)
}

func (w *writer) table(t api.Table) {
	w.text(t.Name)
	w.count(len(t.Cols))
	for _, c := range t.Cols {
		w.column(c)
	}
	w.count(len(t.Keys))
	for _, k := range t.Keys {
		w.key(k)
	}
}

func (w *writer) column(c api.Column) {
	w.text(c.Name)
	w.count(c.Type)
	if c.NotNull {
		w.count(1)
	} else {
		w.count(0)
	}
}

func (w *writer) key(k api.Key) {
	w.text(k.Name)
	bits := 0
	switch {
	case k.Primary: // which is unique, too
		bits += primaryKey
		fallthrough
	case k.Unique:
		bits += uniqueKey
	}
	w.count(bits)
	w.count(len(k.Cols))
	for _, n := range k.Cols {
		w.count(n)
	}
}

func (w *writer) rows(l []api.Row) {
	w.count(len(l))
	for _, r := range l {
		w.number(r.Id)
		b, _ := wire.PutRow(r.Vals) // a store's values may be
		w.put(b)
	}
}
