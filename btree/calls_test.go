package btree_test

import (
	"fmt"
	"strings"
	"testing"

	"consistory/btree"
)

func TestNew(t *testing.T) {
	for what, x := range map[string]*btree.Tree{"New": btree.New(), "the zero Tree": {}} {
		v, ok := x.Get(nil)
		if x.Len() != 0 || ok || len(v) != 0 || x.Del(nil) || x.Del([]byte("a")) || rest(t, x.Seek(nil)) != "" || x.Clone().Len() != 0 {
			t.Errorf("P7.1: %s has something", what)
		}
		if !x.Put([]byte("a"), []byte("va")) || show(t, x) != `1: "a"="va"` {
			t.Errorf("P7.1: %s: %s", what, show(t, x))
		}
	}
	x, y := btree.New(), btree.New()
	x.Put([]byte("a"), nil)
	if y.Len() != 0 {
		t.Error("rule 6: another tree was changed")
	}
}

func TestPut(t *testing.T) {
	x := btree.New()
	for i, c := range []struct {
		key, value string
		isNew      bool
		size       int
	}{
		{"b", "1", true, 1}, {"a", "2", true, 2}, {"b", "3", false, 2}, {"b", "3", false, 2}, {"", "4", true, 3}, {"", "", false, 3},
		{"\x00", "5", true, 4}, {"aa", "", true, 5}, {"aa", "6", false, 5}, {"\xff", strings.Repeat("x", 70000), true, 6}, {"\xff", "7", false, 6},
		{strings.Repeat("k", 70000), "8", true, 7}, {strings.Repeat("k", 69999), "9", true, 8},
	} {
		isNew := x.Put([]byte(c.key), []byte(c.value))
		v, ok := x.Get([]byte(c.key))
		if isNew != c.isNew || !ok || string(v) != c.value || x.Len() != c.size {
			t.Errorf("P7.1: Put %d: new %v, Len %d, Get %v", i, isNew, x.Len(), ok)
		}
	}
}

func TestGet(t *testing.T) {
	x := treeOf("b", "bb", "d", "\x00", "d\x00\x00")
	for _, k := range []string{"b", "bb", "d", "\x00", "d\x00\x00"} {
		if v, ok := x.Get([]byte(k)); !ok || string(v) != "v"+k {
			t.Errorf("P7.1: Get(%q): %q, %v", k, v, ok)
		}
	}
	for _, k := range []string{"", "a", "c", "e", "B", "ba", "bbb", "b\x00", "d\x00", "\x00\x00", "\xff"} {
		if v, ok := x.Get([]byte(k)); ok || len(v) != 0 {
			t.Errorf("P7.1: Get(%q): %q, %v", k, v, ok)
		}
	}
}

func TestDel(t *testing.T) {
	x := treeOf("a", "", "c")
	for i, c := range []struct {
		key   string
		was   bool
		right string
	}{
		{"b", false, `3: ""="v" "a"="va" "c"="vc"`}, {"a\x00", false, `3: ""="v" "a"="va" "c"="vc"`}, {"", true, `2: "a"="va" "c"="vc"`},
		{"", false, `2: "a"="va" "c"="vc"`}, {"c", true, `1: "a"="va"`}, {"c", false, `1: "a"="va"`}, {"a", true, "0: "}, {"a", false, "0: "},
	} {
		if was := x.Del([]byte(c.key)); was != c.was || show(t, x) != c.right {
			t.Errorf("P7.1: Del %d: %v, %s", i, was, show(t, x))
		}
	}
	if !x.Put([]byte("a"), []byte("again")) || show(t, x) != `1: "a"="again"` {
		t.Errorf("P7.1: a key that was gone: %s", show(t, x))
	}
}

// TestNilAndEmpty: as keys and as values they are the same.
func TestNilAndEmpty(t *testing.T) {
	x := btree.New()
	if !x.Put(nil, []byte("1")) || x.Put([]byte{}, []byte("2")) || x.Len() != 1 {
		t.Error("rule 2: the empty key is another than nil")
	}
	if v, ok := x.Get(nil); !ok || string(v) != "2" {
		t.Errorf("rule 2: %q, %v", v, ok)
	}
	x.Put(nil, nil)
	a := x.Dump()
	x.Put([]byte{}, []byte{})
	if string(a) != string(x.Dump()) || string(a) != "\x01\x00\x00" {
		t.Errorf("rule 2: %x, %x", a, x.Dump())
	}
	if v, ok := x.Get([]byte{}); !ok || len(v) != 0 {
		t.Errorf("P7.1: a key without a value: %q, %v", v, ok)
	}
	if !x.Del(nil) || x.Del([]byte{}) || x.Len() != 0 {
		t.Error("P7.1: Del of the empty key")
	}
}

// TestEachByte: keys of each byte stand as numbers do, a shorter one ahead of one that begins like it.
func TestEachByte(t *testing.T) {
	x := btree.New()
	var right []string
	for i := range 256 {
		k := string([]byte{byte(i)})
		right = append(right, fmt.Sprintf("%q=%q", k, k), fmt.Sprintf("%q=%q", k+"\x00", "0"), fmt.Sprintf("%q=%q", k+"\xff", "1"))
		j := byte(i * 77) // each byte once, in no order
		x.Put([]byte{j, 255}, []byte("1"))
		x.Put([]byte{j}, []byte{j})
		x.Put([]byte{j, 0}, []byte("0"))
	}
	if got := rest(t, x.Seek(nil)); got != strings.Join(right, " ") || x.Len() != 768 {
		t.Errorf("the order byte by byte: %d: %s", x.Len(), got)
	}
}

func TestClone(t *testing.T) {
	for _, n := range []int{0, 1, 15, 16, 40, 1000} {
		x := treeOf(numbers(n)...)
		y := x.Clone()
		before := show(t, x)
		if show(t, y) != before {
			t.Errorf("P7.1: Clone of %d keys: %s", n, show(t, y))
		}
		for i := range n + 10 {
			y.Put(fmt.Appendf(nil, "%06d", 3*i), []byte("y"))
			y.Del(fmt.Appendf(nil, "%06d", 2*i))
		}
		if show(t, x) != before || y.Len() == n {
			t.Errorf("P7.1: %d keys: what was done to the clone is seen", n)
		}
		after := show(t, y)
		z := y.Clone()
		for i := range n + 10 {
			x.Del(fmt.Appendf(nil, "%06d", i))
			z.Put(fmt.Appendf(nil, "%06d", i), []byte("z"))
		}
		if show(t, x) != "0: " || show(t, y) != after || z.Len() < n+10 {
			t.Errorf("P7.1: %d keys: what was done to one of three is seen", n)
		}
	}
}

// TestClones: a clone at each step of a tree that grows and shrinks stays as it was then.
func TestClones(t *testing.T) {
	x := btree.New()
	var clones []*btree.Tree
	var dumps []string
	for i := range 1200 {
		k := fmt.Appendf(nil, "%d", i*7919%600)
		if !x.Put(k, fmt.Append(nil, i)) && i%3 != 0 {
			x.Del(k)
		}
		clones, dumps = append(clones, x.Clone()), append(dumps, string(x.Dump()))
	}
	for i, c := range clones {
		if string(c.Dump()) != dumps[i] {
			t.Fatalf("P7.1: the clone of step %d was changed", i)
		}
		c.Put([]byte("own"), nil)
		for range i % 20 {
			k, _, _ := c.Seek(nil).Next()
			c.Del(k)
		}
	}
	if string(x.Dump()) != dumps[len(dumps)-1] {
		t.Error("P7.1: changes of clones are seen")
	}
}
