package wire

import (
	"bytes"
	"strings"

	"consistory/api"
)

const mostValues = 64 // of a row

// PutRow: how many values l has, and each behind its kind.
func PutRow(l []api.Value) ([]byte, error) {
	var w writer
	w.row(l)
	return w.done()
}

// Row: the row at b's beginning, and its size.
func Row(b []byte) ([]api.Value, int, error) {
	r := reader{b: b}
	l := r.row()
	if r.err != nil {
		return nil, 0, r.err
	}
	return l, r.at, nil
}

func (w *writer) row(l []api.Value) { list(w, l, mostValues, w.value) }

func (r *reader) row() []api.Value { return listOf(r, mostValues, r.value) }

func (w *writer) value(v api.Value) {
	if !valueMayBe(v) {
		w.refuse()
		return
	}
	w.between(v.Kind, api.Null, api.Text)
	switch v.Kind {
	case api.Bool:
		w.truth(v.Int == 1)
	case api.Int:
		w.number(folded(v.Int))
	case api.Text:
		w.text(v.Text, api.MaxText)
	}
}

// valueMayBe: each kind asks what the next one asks, and more; a text stands alone.
func valueMayBe(v api.Value) bool {
	switch v.Kind {
	case api.Null:
		if v.Int != 0 {
			return false
		}
		fallthrough
	case api.Bool:
		if v.Int != 0 && v.Int != 1 {
			return false
		}
		fallthrough
	case api.Int:
		return v.Text == ""
	case api.Text:
		return v.Int == 0 && len(v.Text) <= api.MaxText && strings.IndexByte(v.Text, 0) < 0
	}
	return false
}

func (r *reader) value() api.Value {
	v := api.Value{Kind: r.between(api.Null, api.Text)}
	switch v.Kind {
	case api.Bool:
		v.Int = int64(r.between(0, 1))
	case api.Int:
		v.Int = unfolded(r.number())
	case api.Text:
		v.Text = r.textValue()
	}
	return v
}

// textValue looks for a 0 in a text that is cut, too: no row begins with it.
func (r *reader) textValue() string {
	n := r.between(0, api.MaxText)
	there := r.rest()
	there = there[:min(n, len(there))]
	if i := bytes.IndexByte(there, 0); i >= 0 {
		r.fail(fault(api.ErrForm, r.at+i))
	}
	return string(r.take(n))
}
