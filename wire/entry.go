package wire

import (
	"consistory/api"
)

// PutEntry: e's term and kind, and of a command who asks for what.
func PutEntry(e api.Entry) ([]byte, error) {
	var w writer
	w.entry(e)
	return w.done()
}

// Entry: the entry at b's beginning, and its size.
func Entry(b []byte) (api.Entry, int, error) {
	r := reader{b: b}
	e := r.entry()
	if r.err != nil {
		return api.Entry{}, 0, r.err
	}
	return e, r.at, nil
}

func (w *writer) entry(e api.Entry) {
	if !entryMayBe(e) {
		w.refuse()
		return
	}
	w.number(e.Term)
	w.between(e.Kind, api.EnNone, api.EnCommand)
	if e.Kind == api.EnCommand {
		w.number(e.Client)
		w.number(e.Seq)
		w.text(e.Sql, api.MaxSQL)
	}
}

// entryMayBe: a leader's own asks what a command asks, and more.
func entryMayBe(e api.Entry) bool {
	switch e.Kind {
	case api.EnNone:
		if e.Client != 0 || e.Seq != 0 || e.Sql != "" {
			return false
		}
		fallthrough
	case api.EnCommand:
		return len(e.Sql) <= api.MaxSQL
	}
	return false
}

func (r *reader) entry() api.Entry {
	e := api.Entry{Term: r.number()}
	e.Kind = r.between(api.EnNone, api.EnCommand)
	if e.Kind == api.EnCommand {
		e.Client = r.number()
		e.Seq = r.number()
		e.Sql = r.text(api.MaxSQL)
	}
	return e
}
