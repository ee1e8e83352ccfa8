package simdisk

import (
	"errors"

	"consistory/api"
)

const longestName = 40 // bytes

func nameMayBe(name string) bool {
	if name == "" || len(name) > longestName {
		return false
	}
	for i := range len(name) {
		if !nameByte(name[i]) {
			return false
		}
	}
	return true
}

func nameByte(c byte) bool {
	return 'a' <= c && c <= 'z' || '0' <= c && c <= '9' || c == '.' || c == '-' || c == '_'
}

// within wraps err with the file's name, unless it tells one already: of a Rename two names may be at fault.
func within(name string, err error) error {
	var w *api.Within
	if errors.As(err, &w) {
		return err
	}
	return &api.Within{Part: name, Err: err}
}
