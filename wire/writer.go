package wire

import (
	"consistory/api"
)

// writer gathers bytes; behind its first fault it gathers nothing.
type writer struct {
	b   []byte
	err error
}

// done tells the bytes, or the fault.
func (w *writer) done() ([]byte, error) {
	if w.err != nil {
		return nil, w.err
	}
	return w.b, nil
}

// refuse tells that what would stand next may not be.
func (w *writer) refuse() {
	if w.err == nil {
		w.b, w.err = nil, fault(api.ErrForm, len(w.b))
	}
}

func (w *writer) number(n uint64) {
	if w.err == nil {
		w.b = appendUint(w.b, n)
	}
}

// between writes a number from least to most, as how far it is from least: one byte, where they are less than 128 apart.
func (w *writer) between(n, least, most int) {
	if n < least || n > most {
		w.refuse()
		return
	}
	w.number(uint64(n - least))
}

func (w *writer) truth(t bool) {
	if t {
		w.number(1)
	} else {
		w.number(0)
	}
}

func (w *writer) text(s string, most int) {
	w.between(len(s), 0, most)
	if w.err == nil {
		w.b = append(w.b, s...)
	}
}

func (w *writer) data(b []byte, most int) {
	w.between(len(b), 0, most)
	if w.err == nil {
		w.b = append(w.b, b...)
	}
}

// list writes how many there are, at most most, and each of them.
func list[T any](w *writer, l []T, most int, put func(T)) {
	w.between(len(l), 0, most)
	for _, x := range l {
		if w.err != nil {
			return
		}
		put(x)
	}
}
