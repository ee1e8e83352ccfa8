package simdisk_test

import (
	"errors"
	"fmt"
	"strings"
	"testing"

	"consistory/api"
	"consistory/simdisk"
)

// classes: all that there are, of which an error has just one.
var classes = []api.Class{
	api.ErrSyntax, api.ErrLimit, api.ErrName, api.ErrType, api.ErrConstraint, api.ErrOverflow, api.ErrZero,
	api.ErrForm, api.ErrSum, api.ErrShort, api.ErrFile, api.ErrFull, api.ErrDown, api.ErrPlace,
	api.ErrNode, api.ErrLead, api.ErrWait, api.ErrBusy, api.ErrLine,
}

// classOf tells an error's class (0: none), and that it has no other one.
func classOf(t *testing.T, err error) api.Class {
	t.Helper()
	if err == nil {
		return 0
	}
	var c api.Class
	if !errors.As(err, &c) {
		t.Fatalf("an error without a class: %v", err)
	}
	for _, other := range classes {
		if errors.Is(err, other) != (other == c) {
			t.Fatalf("%v: of class %d, and of %d", err, c, other)
		}
	}
	return c
}

// want holds an error's class against the right one.
func want(t *testing.T, what string, err error, c api.Class) {
	t.Helper()
	if got := classOf(t, err); got != c {
		t.Errorf("%s: class %d, want %d", what, got, c)
	}
}

// done fails if a call that must be done wasn't.
func done(t *testing.T, errs ...error) {
	t.Helper()
	for i, err := range errs {
		if err != nil {
			t.Fatalf("call %d: %v", i, err)
		}
	}
}

// show tells all that may be seen of a disk whose power is on: each file's bytes, what is used, the count.
func show(d *simdisk.Disk) string {
	var b strings.Builder
	for _, name := range d.List() {
		data, err := d.Read(name)
		if err != nil {
			return err.Error()
		}
		b.WriteString(name + "=" + string(data) + " ")
	}
	return b.String() + fmt.Sprintf("used %d count %d", d.Used(), d.Count())
}

// wantShow holds a disk against what is to be seen of it.
func wantShow(t *testing.T, what string, d *simdisk.Disk, w string) {
	t.Helper()
	if got := show(d); got != w {
		t.Errorf("%s: %q, want %q", what, got, w)
	}
}

// sureOf tells which of a file's bytes are sure, by a fall: d is of no other use behind it.
func sureOf(t *testing.T, d *simdisk.Disk, name string) string {
	t.Helper()
	d.Crash(api.Crash{})
	b, err := d.Read(name)
	done(t, err)
	return string(b)
}

// zeros: n bytes.
func zeros(n int) []byte { return make([]byte, n) }

// x: bytes to append.
func x(s string) []byte { return []byte(s) }
