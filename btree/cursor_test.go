package btree_test

import (
	"fmt"
	"testing"

	"consistory/btree"
)

func TestExample(t *testing.T) {
	x := btree.New()
	x.Put([]byte("b"), nil)
	x.Put([]byte("a"), nil)
	if got := rest(t, x.Seek(nil)); got != `"a"="" "b"=""` {
		t.Errorf("the example: %s", got)
	}
}

func TestSeek(t *testing.T) {
	x := treeOf("b", "d", "d\x00", "dd", "f")
	all := `"b"="vb" "d"="vd" "d\x00"="vd\x00" "dd"="vdd" "f"="vf"`
	for from, right := range map[string]string{
		"": all, "\x00": all, "a": all, "az": all, "b": all, "b\x00": all[9:], "c": all[9:], "d": all[9:],
		"d\x00": all[18:], "d\x00\x00": all[35:], "d\x01": all[35:], "dd": all[35:], "dd\x00": all[46:], "de": all[46:], "e": all[46:], "f": all[46:],
		"f\x00": "", "g": "", "\xff": "", "\xff\xff": "",
	} {
		if got := rest(t, x.Seek([]byte(from))); got != right {
			t.Errorf("P7.2: Seek(%q): %s, want %s", from, got, right)
		}
	}
	if rest(t, x.Seek([]byte{})) != all || rest(t, btree.New().Seek(nil)) != "" {
		t.Error("P7.2: Seek of nothing, and in a tree without keys")
	}
}

// TestSeekEach: in trees of some height, at each key, ahead of it and behind it.
func TestSeekEach(t *testing.T) {
	for _, n := range []int{15, 16, 17, 300, 3000} {
		keys := numbers(n)
		x := treeOf(keys...)
		for i, k := range keys {
			next := "-"
			if i+1 < n {
				next = keys[i+1]
			}
			wantNext(t, "ahead", x.Seek([]byte(k[:5]+string(k[5]-1)+"z")), k)
			wantNext(t, "behind", x.Seek([]byte(k+"\x00")), next)
			c := x.Seek([]byte(k))
			wantNext(t, "at", c, k)
			wantNext(t, "the next", c, next)
		}
	}
}

func TestNextSeesWhatIsThereNow(t *testing.T) {
	x := treeOf("b", "d", "f")
	c := x.Seek([]byte("b"))
	x.Put([]byte("a"), []byte("va"))
	wantNext(t, "a key below Seek's", c, "b")
	x.Put([]byte("b\x00"), []byte("vb\x00"))
	wantNext(t, "a key just above the last one", c, "b\x00")
	x.Put([]byte("c"), []byte("vc"))
	wantNext(t, "a new key", c, "c")
	x.Put([]byte("bb"), []byte("vbb"))
	x.Del([]byte("c"))
	x.Put([]byte("c"), []byte("vc"))
	wantNext(t, "new keys up to the last one", c, "d")
	x.Del([]byte("d"))
	x.Del([]byte("f"))
	wantNext(t, "all others gone", c, "-")
	x.Put([]byte("d"), []byte("vd"))
	wantNext(t, "the last one again", c, "-")
	x.Put([]byte("e"), []byte("old"))
	x.Put([]byte("e"), []byte("ve"))
	wantNext(t, "another value", c, "e")
}

func TestNextAsksAgain(t *testing.T) {
	x := btree.New()
	c := x.Seek([]byte("m"))
	wantNext(t, "no keys", c, "-")
	x.Put([]byte("a"), []byte("va"))
	wantNext(t, "one that is below", c, "-")
	wantNext(t, "one that is below, again", c, "-")
	x.Put([]byte("m"), []byte("vm"))
	wantNext(t, "just Seek's key", c, "m")
	wantNext(t, "no more", c, "-")
	wantNext(t, "no more, again", c, "-")
	x.Put([]byte("mm"), []byte("vmm"))
	x.Put([]byte("z"), []byte("vz"))
	wantNext(t, "more", c, "mm")
	x.Del([]byte("mm"))
	wantNext(t, "the last one gone", c, "z")
	x.Del([]byte("z"))
	x.Del([]byte("m"))
	x.Del([]byte("a"))
	wantNext(t, "an empty tree", c, "-")
	x.Put([]byte("z"), []byte("vz"))
	x.Put([]byte("z\x00"), []byte("vz\x00"))
	wantNext(t, "what was told isn't told again", c, "z\x00")
}

// TestSeekBelowTheFirst: up to the first Next a cursor is ahead of Seek's key, not of the key that it would have told.
func TestSeekBelowTheFirst(t *testing.T) {
	x := treeOf("f")
	c := x.Seek([]byte("b"))
	x.Put([]byte("c"), []byte("vc"))
	wantNext(t, "between Seek's key and the first", c, "c")
	d := x.Seek([]byte("g"))
	wantNext(t, "none", d, "-")
	x.Put([]byte("g"), []byte("vg"))
	wantNext(t, "behind a false", d, "g")
}

// TestCursors: several of one tree, and of its clone, go each on its own.
func TestCursors(t *testing.T) {
	x := treeOf("a", "b", "c")
	c, d := x.Seek(nil), x.Seek([]byte("b"))
	wantNext(t, "one", c, "a")
	y := x.Clone()
	e := y.Seek(nil)
	y.Del([]byte("b"))
	y.Put([]byte("bb"), []byte("vbb"))
	wantNext(t, "a clone's", e, "a")
	wantNext(t, "the tree's", c, "b")
	wantNext(t, "the other one", d, "b")
	wantNext(t, "a clone's", e, "bb")
	x.Put([]byte("bx"), []byte("vbx"))
	wantNext(t, "the tree's", c, "bx")
	wantNext(t, "a clone's", e, "c")
	wantNext(t, "the other one", d, "bx")
	if k, v, ok := new(btree.Cursor).Next(); ok || len(k) != 0 || len(v) != 0 {
		t.Errorf("the zero Cursor: %q, %q", k, v)
	}
}

// TestDelAllByCursor: each key is taken away as soon as it is told, from either end and from trees of each height.
func TestDelAllByCursor(t *testing.T) {
	for _, n := range []int{1, 15, 16, 100, 2000} {
		x := treeOf(numbers(n)...)
		c := x.Seek(nil)
		for i := range n {
			k, _, ok := c.Next()
			if !ok || string(k) != fmt.Sprintf("%06d", i) || !x.Del(k) || x.Len() != n-i-1 {
				t.Fatalf("P7.2: %d of %d keys: %q, %v", i, n, k, ok)
			}
		}
		wantNext(t, "all gone", c, "-")
		x = treeOf(numbers(n)...)
		for i := n - 1; i >= 0; i-- {
			c := x.Seek(fmt.Appendf(nil, "%06d", i))
			k, _, ok := c.Next()
			if !ok || !x.Del(k) || x.Len() != i {
				t.Fatalf("P7.2: %d of %d keys, from the end: %q, %v", i, n, k, ok)
			}
			wantNext(t, "the last gone", c, "-")
		}
	}
}
