package wire_test

import (
	"errors"
	"testing"

	"consistory/api"
)

// classOf tells an error's class (0: none), and that it has no other one.
func classOf(t *testing.T, err error) api.Class {
	t.Helper()
	if err == nil {
		return 0
	}
	var c api.Class
	if !errors.As(err, &c) {
		t.Fatalf("an error without a class: %v", err)
	}
	for _, other := range []api.Class{api.ErrSyntax, api.ErrLimit, api.ErrForm, api.ErrSum, api.ErrShort, api.ErrPlace} {
		if errors.Is(err, other) != (other == c) {
			t.Fatalf("%v: of class %d, and of %d", err, c, other)
		}
	}
	return c
}

// wantPlace holds the place that an error tells against the right one.
func wantPlace(t *testing.T, err error, at int) {
	t.Helper()
	var p *api.Placed
	if !errors.As(err, &p) || p.At != at {
		t.Errorf("%v: want the place %d", err, at)
	}
}

// guarded tells b with spare room behind it, and a function that fails if b or the room was changed.
func guarded(t *testing.T, b []byte) ([]byte, func()) {
	room := make([]byte, len(b)+16)
	copy(room, b)
	for i := len(b); i < len(room); i++ {
		room[i] = 0xA5
	}
	before := string(room)
	return room[:len(b)], func() {
		t.Helper()
		if string(room) != before {
			t.Errorf("%x was changed to %x", before, room)
		}
	}
}

// prefixReader: a reader that tells the size of what stands at b's beginning, and that it is written again by the same bytes.
type prefixReader func(b []byte) (size int, again []byte, err error)

// checkBeginnings holds a reader at b against what its answers at b's beginnings and at longer bytes must be: whole things come back, short ones can be completed, and nothing mends what is of no form.
func checkBeginnings(t *testing.T, read prefixReader, b []byte) {
	t.Helper()
	size, again, err := read(b)
	switch c := classOf(t, err); c {
	case 0:
		if size > len(b) || string(again) != string(b[:size]) {
			t.Fatalf("%x: size %d, written again %x", b, size, again)
		}
		for k := range size {
			if _, _, err := read(b[:k]); classOf(t, err) != api.ErrShort {
				t.Fatalf("%x, a beginning of %x: %v", b[:k], b[:size], err)
			}
		}
	case api.ErrShort:
		if !completes(t, read, b) {
			t.Fatalf("%x is short of nothing", b)
		}
	case api.ErrForm:
		for n := range 256 {
			if _, _, err := read(append(b[:len(b):len(b)], byte(n))); classOf(t, err) != api.ErrForm {
				t.Fatalf("%x is of no form, but %02x behind it: %v", b, n, err)
			}
		}
	default:
		t.Fatalf("%x: %v", b, err)
	}
}

// completes puts, again and again, the first byte behind b that leaves it a beginning, until it is whole.
func completes(t *testing.T, read prefixReader, b []byte) bool {
	b = append([]byte(nil), b...)
	for range 3000 {
		found := false
		for n := 0; n < 256 && !found; n++ {
			_, _, err := read(append(b, byte(n)))
			c := classOf(t, err)
			if c == 0 {
				return true
			}
			if c == api.ErrShort {
				b, found = append(b, byte(n)), true
			}
		}
		if !found {
			return false
		}
	}
	return false
}

// everyBytes calls visit with all bytes of at most most bytes of the alphabet.
func everyBytes(alphabet string, most int, visit func([]byte)) {
	var grow func(b []byte)
	grow = func(b []byte) {
		visit(b)
		for i := 0; i < len(alphabet) && len(b) < most; i++ {
			grow(append(b[:len(b):len(b)], alphabet[i]))
		}
	}
	grow(nil)
}

// allBytes: the bytes 0 to 255.
func allBytes() string {
	b := make([]byte, 256)
	for i := range b {
		b[i] = byte(i)
	}
	return string(b)
}
