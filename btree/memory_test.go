package btree_test

import (
	"bytes"
	"testing"

	"consistory/btree"
)

// scribble writes over all of b and the room behind it.
func scribble(b []byte) {
	b = b[:cap(b)]
	for i := range b {
		b[i] = 0x5A
	}
}

// room: s with bytes behind it that are nobody's business.
func room(s string) []byte { return append([]byte(s), "behind"...)[:len(s)] }

func whole(b []byte) string { return string(b[:len(b)+len("behind")]) }

// TestWhatIsHandedIn is neither changed nor kept, nor the room behind it.
func TestWhatIsHandedIn(t *testing.T) {
	x := treeOf("a", "c")
	key, value, from := room("b"), room("vb"), room("b")
	x.Put(key, value)
	x.Get(key)
	c := x.Seek(from)
	y := x.Clone()
	y.Del(key)
	if whole(key) != "bbehind" || whole(value) != "vbbehind" || whole(from) != "bbehind" {
		t.Errorf("rule 3: %q, %q, %q", whole(key), whole(value), whole(from))
	}
	scribble(key)
	scribble(value)
	scribble(from)
	wantNext(t, "a cursor whose key was changed", c, "b")
	if got := show(t, x); got != `3: "a"="va" "b"="vb" "c"="vc"` {
		t.Errorf("rule 3: %s", got)
	}
	b := room(string(x.Dump()))
	z := load(t, b)
	if whole(b) != string(x.Dump())+"behind" {
		t.Errorf("rule 3: Load changed %q", b)
	}
	scribble(b)
	if show(t, z) != show(t, x) {
		t.Errorf("rule 3: Load kept what it was given: %s", show(t, z))
	}
}

// TestAnswersAreNewMemory: whatever is done with one, the others and the tree stay.
func TestAnswersAreNewMemory(t *testing.T) {
	x := treeOf("a", "b", "c")
	right := show(t, x)
	dump := bytes.Clone(x.Dump())
	v, _ := x.Get([]byte("b"))
	w, _ := x.Get([]byte("b"))
	scribble(v)
	if string(w) != "vb" {
		t.Errorf("rule 3: Get: %q", w)
	}
	c, d := x.Seek(nil), x.Clone().Seek(nil)
	for _, want := range []string{"a", "b", "c"} {
		k, v, _ := c.Next()
		l, u, _ := d.Next()
		scribble(k)
		if string(v) != "v"+want || string(l) != want || string(u) != "v"+want {
			t.Errorf("rule 3: Next: %q, %q, %q", v, l, u)
		}
		scribble(v)
		scribble(l)
		scribble(u)
	}
	wantNext(t, "what was told is scribbled over", c, "-")
	first, second := x.Dump(), x.Dump()
	scribble(first)
	if !bytes.Equal(second, dump) || !bytes.Equal(x.Dump(), dump) || show(t, x) != right {
		t.Errorf("rule 3: %s", show(t, x))
	}
}

// TestListsOfOneAnswerAreApart: what is put behind a key stays out of its value, and the other way round.
func TestListsOfOneAnswerAreApart(t *testing.T) {
	x := treeOf("a", "b")
	for _, tree := range []*btree.Tree{x, load(t, x.Dump())} {
		k, v, _ := tree.Seek(nil).Next()
		_ = append(k, "over and over and over and over and over"...)
		scribble(k)
		if string(v) != "va" {
			t.Errorf("rule 3: %q", v)
		}
		k, v, _ = tree.Seek(nil).Next()
		scribble(v)
		if string(k) != "a" || show(t, tree) != `2: "a"="va" "b"="vb"` {
			t.Errorf("rule 3: %q", k)
		}
	}
}
