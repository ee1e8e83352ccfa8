package wal_test

import (
	"errors"
	"fmt"
	"strings"
	"testing"

	"consistory/api"
	"consistory/simdisk"
	"consistory/wal"
)

const room = 1 << 16 // bytes of the smallest disk that P3.4 speaks of

// classes: all that there are, of which an error has just one.
var classes = []api.Class{
	api.ErrSyntax, api.ErrLimit, api.ErrName, api.ErrType, api.ErrConstraint, api.ErrOverflow, api.ErrZero,
	api.ErrForm, api.ErrSum, api.ErrShort, api.ErrFile, api.ErrFull, api.ErrDown, api.ErrPlace,
	api.ErrNode, api.ErrLead, api.ErrWait, api.ErrBusy, api.ErrLine,
}

// classOf tells an error's class (0: none), and that it has no other one.
func classOf(t *testing.T, err error) api.Class {
	t.Helper()
	if err == nil {
		return 0
	}
	var c api.Class
	if !errors.As(err, &c) {
		t.Fatalf("an error without a class: %v", err)
	}
	for _, other := range classes {
		if errors.Is(err, other) != (other == c) {
			t.Fatalf("%v: of class %d, and of %d", err, c, other)
		}
	}
	return c
}

// want holds an error's class against the right one.
func want(t *testing.T, what string, err error, c api.Class) {
	t.Helper()
	if got := classOf(t, err); got != c {
		t.Errorf("%s: class %d, want %d", what, got, c)
	}
}

// done fails if a call that must be done wasn't.
func done(t *testing.T, errs ...error) {
	t.Helper()
	for i, err := range errs {
		if err != nil {
			t.Fatalf("call %d: %v", i, err)
		}
	}
}

// open opens the wal of a disk that has one, or none, but whose power is on.
func open(t *testing.T, d *simdisk.Disk) *wal.Wal {
	t.Helper()
	w, err := wal.Open(d)
	if err != nil || w == nil {
		t.Fatalf("Open: %v, %v", w, err)
	}
	return w
}

// command: an entry of a client.
func command(term uint64, sql string) api.Entry {
	return api.Entry{Term: term, Kind: api.EnCommand, Client: 7, Seq: term + 100, Sql: sql}
}

// commands: one for each letter, of term 1.
func commands(letters string) []api.Entry {
	var l []api.Entry
	for _, c := range letters {
		l = append(l, command(1, string(c)))
	}
	return l
}

// one: a list of one command.
func one(term uint64, sql string) []api.Entry { return []api.Entry{command(term, sql)} }

// write tells all that a wal may tell, every field of it; a long text by its length.
func write(h api.Hard, base, term uint64, l []api.Entry) string {
	var b strings.Builder
	fmt.Fprintf(&b, "%d/%d base %d/%d:", h.Term, h.Vote, base, term)
	for _, e := range l {
		sql := e.Sql
		if len(sql) > 30 {
			sql = fmt.Sprint(sql[:30], "..", len(sql))
		}
		switch {
		case e == command(e.Term, e.Sql):
			fmt.Fprintf(&b, " %s@%d", sql, e.Term)
		case e == api.Entry{Term: e.Term}:
			fmt.Fprintf(&b, " -@%d", e.Term)
		default:
			fmt.Fprintf(&b, " %s@%d(%d %d %d)", sql, e.Term, e.Kind, e.Client, e.Seq)
		}
	}
	return b.String()
}

// show tells all that w tells.
func show(w *wal.Wal) string {
	base, term := w.Base()
	return write(w.Hard(), base, term, w.Entries())
}

// wantShow holds what w tells against what it must.
func wantShow(t *testing.T, what string, w *wal.Wal, right string) {
	t.Helper()
	if got := show(w); got != right {
		t.Errorf("%s: %q, want %q", what, got, right)
	}
}

// wantSure holds what is on d behind a fall against what must be.
func wantSure(t *testing.T, what string, d *simdisk.Disk, right string) {
	t.Helper()
	d.Crash(api.Crash{})
	wantShow(t, what, open(t, d), right)
}

// wantPower: behind a call that told no error the power is on: each tells the disk's.
func wantPower(t *testing.T, d *simdisk.Disk) {
	t.Helper()
	if _, err := d.Read("wal"); errors.Is(err, api.ErrDown) {
		t.Fatal("P3.3: the power went, and the call didn't tell")
	}
}
