package btree

import (
	"fmt"
	"math/rand"
	"testing"
)

// checkNode holds n against what a node must be: keys between low and high (empty: none), enough items and not too many. It tells how many items there are, and how deep.
func checkNode(t *testing.T, n node, root bool, low, high string) (int, int) {
	t.Helper()
	if len(n.items) > most || !root && len(n.items) < fewest || n.inner() && (len(n.kids) != len(n.items)+1 || len(n.items) == 0) {
		t.Fatalf("a node with %d items and %d kids, root %v", len(n.items), len(n.kids), root)
	}
	size, depth := len(n.items), 0
	for i, x := range n.items {
		if low != "" && x.key <= low || high != "" && x.key >= high || i > 0 && x.key <= n.items[i-1].key {
			t.Fatalf("%q between %q and %q", x.key, low, high)
		}
	}
	for i, kid := range n.kids {
		kidLow, kidHigh := low, high
		if i > 0 {
			kidLow = n.items[i-1].key
		}
		if i < len(n.items) {
			kidHigh = n.items[i].key
		}
		below, d := checkNode(t, kid, false, kidLow, kidHigh)
		if i > 0 && d+1 != depth {
			t.Fatalf("leaves that are %d and %d deep", depth, d+1)
		}
		size, depth = size+below, d+1
	}
	return size, depth
}

func checkTree(t *testing.T, x *Tree) {
	t.Helper()
	if size, _ := checkNode(t, x.root, true, "", ""); size != x.size {
		t.Fatalf("%d items, want %d", size, x.size)
	}
}

func keyOf(i int) []byte { return fmt.Appendf(nil, "%07d", i) }

// TestShape: trees stay even, however they grow and shrink.
func TestShape(t *testing.T) {
	const n = 4500
	r := rand.New(rand.NewSource(1))
	orders := map[string][]int{"mixed": r.Perm(n), "rising": nil, "falling": nil, "inwards": nil}
	for i := range n {
		orders["rising"] = append(orders["rising"], i)
		orders["falling"] = append(orders["falling"], n-1-i)
		orders["inwards"] = append(orders["inwards"], []int{i / 2, n - 1 - i/2}[i%2])
	}
	for in, puts := range orders {
		full := New()
		for i, k := range puts {
			full.Put(keyOf(k), nil)
			if i%50 < 3 {
				checkTree(t, full)
			}
		}
		checkTree(t, full)
		for out, dels := range orders {
			x := full.Clone()
			for i, k := range dels {
				x.Del(keyOf(k))
				if i%50 < 3 {
					checkTree(t, x)
				}
			}
			checkTree(t, x)
			if x.size != 0 || x.root.inner() {
				t.Errorf("%s, then %s: %d items are left", in, out, x.size)
			}
		}
		checkTree(t, full)
	}
}

// TestShapeOfLoaded: of each size, and at the edges of each height.
func TestShapeOfLoaded(t *testing.T) {
	const greatest = 66000
	b, ends := []byte(nil), []int{0}
	for i := range greatest {
		b = append(appendText(b, string(keyOf(i))), 0)
		ends = append(ends, len(b))
	}
	var sizes []int
	for i := range 1000 {
		sizes = append(sizes, i)
	}
	for i := range 16 {
		sizes = append(sizes, 4088+i, 65528+i)
	}
	for _, n := range append(sizes, 10000, greatest) {
		x, err := Load(append((&Tree{size: n}).Dump(), b[:ends[n]]...))
		if err != nil || x.size != n {
			t.Fatalf("P7.3: %d keys: %v", n, err)
		}
		checkTree(t, x)
	}
}

// TestSpans: a tree that is loaded is as low as may be.
func TestSpans(t *testing.T) {
	for n, depth := range map[int]int{0: 0, 1: 0, 15: 0, 16: 1, 255: 1, 256: 2, 4095: 2, 4096: 3} {
		x := New()
		for i := range n {
			x.Put(keyOf(i), nil)
		}
		y, err := Load(x.Dump())
		if err != nil {
			t.Fatal(err)
		}
		if _, d := checkNode(t, y.root, true, "", ""); d != depth {
			t.Errorf("%d keys are %d deep, want %d", n, d, depth)
		}
	}
}
