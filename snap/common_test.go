package snap_test

import (
	"errors"
	"fmt"
	"strings"
	"testing"

	"consistory/api"
	"consistory/simdisk"
	"consistory/snap"
)

const most = api.MaxFrame - 64 // bytes of a snapshot's Data

// classes: all that there are, of which an error has just one.
var classes = []api.Class{
	api.ErrSyntax, api.ErrLimit, api.ErrName, api.ErrType, api.ErrConstraint, api.ErrOverflow, api.ErrZero,
	api.ErrForm, api.ErrSum, api.ErrShort, api.ErrFile, api.ErrFull, api.ErrDown, api.ErrPlace,
	api.ErrNode, api.ErrLead, api.ErrWait, api.ErrBusy, api.ErrLine,
}

// classOf tells an error's class (0: none), and that it has no other one.
func classOf(t *testing.T, err error) api.Class {
	t.Helper()
	if err == nil {
		return 0
	}
	var c api.Class
	if !errors.As(err, &c) {
		t.Fatalf("an error without a class: %v", err)
	}
	for _, other := range classes {
		if errors.Is(err, other) != (other == c) {
			t.Fatalf("%v: of class %d, and of %d", err, c, other)
		}
	}
	return c
}

// want holds an error's class against the right one.
func want(t *testing.T, what string, err error, c api.Class) {
	t.Helper()
	if got := classOf(t, err); got != c {
		t.Errorf("%s: class %d, want %d", what, got, c)
	}
}

// done fails if a call that must be done wasn't.
func done(t *testing.T, errs ...error) {
	t.Helper()
	for i, err := range errs {
		if err != nil {
			t.Fatalf("call %d: %v", i, err)
		}
	}
}

// of: a snapshot.
func of(index, term uint64, data string) api.Snapshot {
	return api.Snapshot{Index: index, Term: term, Data: []byte(data)}
}

// none: what is told of no snapshot.
const none = "none"

// write tells a snapshot.
func write(s api.Snapshot, ok bool) string {
	switch {
	case ok:
		return fmt.Sprintf("%d/%d %q", s.Index, s.Term, s.Data)
	case s.Index != 0 || s.Term != 0 || len(s.Data) != 0:
		return fmt.Sprintf("none, but %d/%d %q", s.Index, s.Term, s.Data)
	}
	return none
}

// load tells what d, whose power is on, has.
func load(t *testing.T, d *simdisk.Disk) string {
	t.Helper()
	s, ok, err := snap.Load(d)
	if err != nil {
		t.Fatalf("Load: %v", err)
	}
	return write(s, ok)
}

// wantLoad holds what d has against what it must have.
func wantLoad(t *testing.T, what string, d *simdisk.Disk, right string) {
	t.Helper()
	if got := load(t, d); got != right {
		t.Errorf("%s: %s, want %s", what, shorten(got), shorten(right))
	}
}

// wantSure holds what d has behind a fall against what it must have.
func wantSure(t *testing.T, what string, d *simdisk.Disk, right string) {
	t.Helper()
	d.Crash(api.Crash{})
	wantLoad(t, what, d, right)
}

// show tells all that may be seen of a disk whose power is on.
func show(d *simdisk.Disk) string {
	var b strings.Builder
	for _, name := range d.List() {
		data, err := d.Read(name)
		fmt.Fprintf(&b, "%s=%q %v ", name, data, err)
	}
	return b.String() + fmt.Sprintf("used %d count %d", d.Used(), d.Count())
}

// fileOf tells the name of the one file that a disk with nothing but a snapshot has.
func fileOf(t *testing.T, d *simdisk.Disk) string {
	t.Helper()
	l := d.List()
	if len(l) != 1 || !strings.HasPrefix(l[0], "snap") {
		t.Fatalf("the files %q", l)
	}
	return l[0]
}

// bytesOf tells the bytes of the one file that a disk with nothing but s has.
func bytesOf(t *testing.T, s api.Snapshot) (string, []byte) {
	t.Helper()
	d := simdisk.New(1 << 20)
	done(t, snap.Save(d, s))
	name := fileOf(t, d)
	b, err := d.Read(name)
	done(t, err)
	return name, b
}

// pattern: n bytes of which no 200 are like the ones behind them.
func pattern(n int) []byte {
	b := make([]byte, n)
	for i := range b {
		b[i] = byte(i ^ i>>8*31)
	}
	return b
}

func shorten(s string) string {
	if len(s) > 100 {
		return s[:100] + ".."
	}
	return s
}
