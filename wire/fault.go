package wire

import (
	"errors"

	"consistory/api"
)

// fault wraps a class with its place.
func fault(class api.Class, at int) error {
	return &api.Placed{At: at, Err: class}
}

// shifted tells err of a part that begins by bytes behind the beginning of the whole.
func shifted(err error, by int) error {
	var class api.Class
	if !errors.As(err, &class) {
		return err
	}
	return fault(class, placeOf(err)+by)
}

// formless tells err of a thing of which no beginning counts: what is cut there is of no form either.
func formless(err error) error {
	if !errors.Is(err, api.ErrShort) {
		return err
	}
	return fault(api.ErrForm, placeOf(err))
}

// placeOf tells where err is.
func placeOf(err error) int {
	var p *api.Placed
	if !errors.As(err, &p) {
		return 0
	}
	return p.At
}
