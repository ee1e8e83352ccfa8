package btree_test

import (
	"bytes"
	"fmt"
	"math/rand"
	"slices"
	"testing"

	"consistory/btree"
)

// pair: a tree beside its model.
type pair struct {
	tree  *btree.Tree
	model map[string]string
}

func (p pair) clone() pair {
	m := map[string]string{}
	for k, v := range p.model {
		m[k] = v
	}
	return pair{p.tree.Clone(), m}
}

// least tells the least key of the model that is above from, or from itself (with).
func (p pair) least(from string, with bool) (string, bool) {
	found, ok := "", false
	for k := range p.model {
		if (k > from || with && k == from) && (!ok || k < found) {
			found, ok = k, true
		}
	}
	return found, ok
}

// mark: a cursor beside what it told.
type mark struct {
	of     pair
	cursor *btree.Cursor
	last   string
	told   bool
}

// run: some trees and cursors, of which each step takes some.
type run struct {
	t     *testing.T
	r     *rand.Rand
	keys  func() string
	trees []pair
	marks []mark
	n     int
}

func (u *run) step() {
	u.n++
	p := u.trees[u.r.Intn(len(u.trees))]
	k := u.keys()
	old, was := p.model[k]
	switch u.r.Intn(10) {
	case 0, 1, 2:
		v := fmt.Sprint(u.n)
		if p.tree.Put([]byte(k), []byte(v)) == was {
			u.t.Fatalf("P7.1: step %d: Put(%q): new %v", u.n, k, was)
		}
		p.model[k] = v
	case 3, 4, 5:
		if p.tree.Del([]byte(k)) != was {
			u.t.Fatalf("P7.1: step %d: Del(%q): was there %v", u.n, k, !was)
		}
		delete(p.model, k)
	case 6:
		if v, ok := p.tree.Get([]byte(k)); ok != was || string(v) != old {
			u.t.Fatalf("P7.1: step %d: Get(%q): %q, %v, want %q", u.n, k, v, ok, old)
		}
	case 7:
		i := u.r.Intn(6)
		u.marks[i] = mark{of: p, cursor: p.tree.Seek([]byte(k)), last: k}
	case 8:
		u.next(&u.marks[u.r.Intn(6)])
	default:
		if u.r.Intn(10) == 0 {
			u.trees[u.r.Intn(len(u.trees))] = p.clone()
		}
	}
	if p.tree.Len() != len(p.model) {
		u.t.Fatalf("P7.1: step %d: Len %d, want %d", u.n, p.tree.Len(), len(p.model))
	}
}

// next holds what a cursor tells against the model of its tree as it is now.
func (u *run) next(m *mark) {
	if m.cursor == nil {
		return
	}
	right, there := m.of.least(m.last, !m.told)
	k, v, ok := m.cursor.Next()
	if ok != there || string(k) != right || string(v) != m.of.model[right] && ok {
		u.t.Fatalf("P7.2: step %d: behind %q: %q, %q, %v, want %q", u.n, m.last, k, v, ok, right)
	}
	if ok {
		m.last, m.told = right, true
	}
}

// compareAll holds each tree whole against its model, and its dump against what else has these keys.
func (u *run) compareAll() {
	for _, p := range u.trees {
		var keys []string
		for k := range p.model {
			keys = append(keys, k)
		}
		b := bytesOf(p.model)
		if !bytes.Equal(p.tree.Dump(), b) {
			u.t.Fatalf("P7.3: step %d: Dump", u.n)
		}
		x := load(u.t, b)
		u.r.Shuffle(len(keys), func(i, j int) { keys[i], keys[j] = keys[j], keys[i] })
		y := btree.New()
		for _, k := range keys {
			y.Put([]byte(k), []byte(p.model[k]))
		}
		if !bytes.Equal(x.Dump(), b) || !bytes.Equal(y.Dump(), b) || x.Len() != len(keys) {
			u.t.Fatalf("P7.4: step %d: trees with the same keys have other dumps", u.n)
		}
		slices.Sort(keys)
		c := x.Seek(nil)
		for _, want := range keys {
			if k, v, ok := c.Next(); !ok || string(k) != want || string(v) != p.model[want] {
				u.t.Fatalf("P7.3: step %d: what was loaded tells %q, want %q", u.n, k, want)
			}
		}
	}
}

// TestModel: whatever is called, in whatever order, on trees, clones and cursors; with few keys and many.
func TestModel(t *testing.T) {
	for seed := range int64(30) {
		r := rand.New(rand.NewSource(seed))
		kinds := []func() string{
			func() string { return fmt.Sprint(r.Intn(12)) },
			func() string { return fmt.Sprint(r.Intn(90)) },
			func() string { return fmt.Sprint(r.Intn(900)) },
			func() string {
				b := make([]byte, r.Intn(5))
				for i := range b {
					b[i] = "\x00\x01a\xff"[r.Intn(4)]
				}
				return string(b)
			},
		}
		u := &run{t: t, r: r, keys: kinds[seed%4], marks: make([]mark, 6)}
		for range 3 {
			u.trees = append(u.trees, pair{btree.New(), map[string]string{}})
		}
		for i := range 4000 {
			u.step()
			if i%200 == 0 {
				u.compareAll()
			}
		}
		u.compareAll()
	}
}
