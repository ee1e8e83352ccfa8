package btree_test

import (
	"encoding/binary"
	"errors"
	"fmt"
	"slices"
	"strings"
	"testing"

	"consistory/api"
	"consistory/btree"
)

// classes: all that there are, of which an error has just one.
var classes = []api.Class{
	api.ErrSyntax, api.ErrLimit, api.ErrName, api.ErrType, api.ErrConstraint, api.ErrOverflow, api.ErrZero,
	api.ErrForm, api.ErrSum, api.ErrShort, api.ErrFile, api.ErrFull, api.ErrDown, api.ErrPlace,
	api.ErrNode, api.ErrLead, api.ErrWait, api.ErrBusy, api.ErrLine,
}

// classOf tells an error's class (0: none), and that it has no other one.
func classOf(t *testing.T, err error) api.Class {
	t.Helper()
	if err == nil {
		return 0
	}
	var c api.Class
	if !errors.As(err, &c) {
		t.Fatalf("an error without a class: %v", err)
	}
	for _, other := range classes {
		if errors.Is(err, other) != (other == c) {
			t.Fatalf("%v: of class %d, and of %d", err, c, other)
		}
	}
	return c
}

// treeOf: a tree with these keys, each with a value of its own.
func treeOf(keys ...string) *btree.Tree {
	t := btree.New()
	for _, k := range keys {
		t.Put([]byte(k), []byte("v"+k))
	}
	return t
}

// numbers: n keys, rising.
func numbers(n int) []string {
	var l []string
	for i := range n {
		l = append(l, fmt.Sprintf("%06d", i))
	}
	return l
}

// rest tells what a cursor tells until it tells nothing.
func rest(t *testing.T, c *btree.Cursor) string {
	t.Helper()
	var l []string
	for {
		k, v, ok := c.Next()
		if !ok {
			if len(k) != 0 || len(v) != 0 {
				t.Fatalf("rule 4: %q, %q beside false", k, v)
			}
			return strings.Join(l, " ")
		}
		l = append(l, fmt.Sprintf("%q=%q", k, v))
	}
}

// show tells all that a tree has.
func show(t *testing.T, x *btree.Tree) string {
	t.Helper()
	return fmt.Sprint(x.Len(), ": ", rest(t, x.Seek(nil)))
}

// wantNext holds what a cursor tells next against the key that it must be ("-": none).
func wantNext(t *testing.T, what string, c *btree.Cursor, right string) {
	t.Helper()
	k, v, ok := c.Next()
	switch {
	case right == "-" && (ok || len(k) != 0 || len(v) != 0):
		t.Errorf("P7.2: %s: %q, %q, %v, want none", what, k, v, ok)
	case right != "-" && (!ok || string(k) != right || string(v) != "v"+right):
		t.Errorf("P7.2: %s: %q, %q, %v, want %q", what, k, v, ok, right)
	}
}

// bytesOf tells the dump of keys and values as the chapter tells it.
func bytesOf(m map[string]string) []byte {
	var keys []string
	for k := range m {
		keys = append(keys, k)
	}
	slices.Sort(keys)
	b := binary.AppendUvarint(nil, uint64(len(keys)))
	for _, k := range keys {
		b = append(binary.AppendUvarint(b, uint64(len(k))), k...)
		b = append(binary.AppendUvarint(b, uint64(len(m[k]))), m[k]...)
	}
	return b
}

// load tells the tree of b, which must have one.
func load(t *testing.T, b []byte) *btree.Tree {
	t.Helper()
	x, err := btree.Load(b)
	if err != nil {
		t.Fatalf("P7.3: Load: %v", err)
	}
	return x
}

// wantForm holds against b that it is no tree's dump.
func wantForm(t *testing.T, what string, b []byte) {
	t.Helper()
	x, err := btree.Load(b)
	if classOf(t, err) != api.ErrForm || x != nil {
		t.Errorf("P7.3: %s: %v, %v, want ErrForm", what, x, err)
	}
}
