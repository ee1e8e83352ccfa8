package resolve

import (
	"errors"

	"consistory/api"
)

// in wraps err with the clause that it is of.
func in(clause string, err error) error {
	if err == nil {
		return nil
	}
	return &api.Within{Part: clause, Err: err}
}

// of wraps err with the name of what is wrong. If a name is told already, it stands closer to the fault.
func of(name string, err error) error {
	var told *api.Within
	if err == nil || errors.As(err, &told) {
		return err
	}
	return &api.Within{Part: name, Err: err}
}
