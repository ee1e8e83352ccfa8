package wire

import (
	"errors"

	"consistory/api"
)

// reader goes over bytes; behind its first fault it reads zeros.
type reader struct {
	b   []byte
	at  int
	err error
}

// fail keeps the first fault.
func (r *reader) fail(err error) {
	if r.err == nil {
		r.err = err
	}
}

// rest tells what isn't read yet.
func (r *reader) rest() []byte { return r.b[r.at:] }

func (r *reader) number() uint64 {
	return r.upTo(1<<64 - 1)
}

// upTo reads a number of at most most. One that is cut is short only if one within the bound begins so.
func (r *reader) upTo(most uint64) uint64 {
	if r.err != nil {
		return 0
	}
	n, size, err := Uint(r.rest())
	switch {
	case errors.Is(err, api.ErrShort):
		n = leastOf(r.rest())
		fallthrough
	case err == nil:
		if n > most {
			err = fault(api.ErrForm, 0)
		}
	}
	if err != nil {
		r.fail(shifted(err, r.at))
		return 0
	}
	r.at += size
	return n
}

// between reads what writer.between wrote; behind a fault 0.
func (r *reader) between(least, most int) int {
	n := r.upTo(uint64(most - least))
	if r.err != nil {
		return 0
	}
	return least + int(n)
}

func (r *reader) truth() bool { return r.upTo(1) == 1 }

// take reads n bytes; they are b's own.
func (r *reader) take(n int) []byte {
	if r.err != nil {
		return nil
	}
	if n > len(r.rest()) {
		r.fail(fault(api.ErrShort, len(r.b)))
		return nil
	}
	r.at += n
	return r.b[r.at-n : r.at]
}

func (r *reader) text(most int) string {
	return string(r.data(most))
}

// data reads what writer.data wrote; the bytes are b's own.
func (r *reader) data(most int) []byte {
	return r.take(r.between(0, most))
}

// listOf reads what list wrote. The list grows with what is there: a great number alone takes no memory.
func listOf[T any](r *reader, most int, get func() T) []T {
	var l []T
	for range r.between(0, most) {
		x := get()
		if r.err != nil {
			return nil
		}
		l = append(l, x)
	}
	return l
}
