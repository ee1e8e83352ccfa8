package btree

import (
	"errors"
	"slices"
	"strconv"
	"strings"

	"consistory/api"
)

// Items of a node; the root may have fewer. One with an item too many has enough for two and the item between them; so has one with an item too few, joined with a neighbour, if that is too much for one.
const (
	fewest = 7
	most   = 2*fewest + 1
)

// item: a key and its value. They are strings, so that nobody can change them.
type item struct{ key, value string }

// node: items, rising; below them kids, each with what stands ahead of the item of its place, the last with what stands behind all items. A leaf has no kids; all leaves are equally deep. The lists of a node that is in a tree are never changed, since clones share them: a change makes new lists on its way from the root down.
type node struct {
	items []item
	kids  []node
}

func (n node) inner() bool { return len(n.kids) > 0 }

// find tells the place of the first item that isn't below key, and whether it is key's own.
func (n node) find(key string) (int, bool) {
	return slices.BinarySearchFunc(n.items, key, func(x item, key string) int { return strings.Compare(x.key, key) })
}

// least tells the first item that isn't below key; ErrPlace, if there is none.
func (n node) least(key string) (item, error) {
	i, here := n.find(key)
	none := error(api.ErrPlace)
	switch {
	case n.inner() && !here:
		x, err := n.kids[i].least(key)
		if !errors.Is(err, api.ErrPlace) {
			return x, err
		}
		none = err
		fallthrough
	default: // nothing of what stands ahead of place i will do: the item there is the first that does
		if i < len(n.items) {
			return n.items[i], nil
		}
	}
	return item{}, wrapped(none, i)
}

// last tells the last item of all.
func (n node) last() item {
	for n.inner() {
		n = n.kids[len(n.kids)-1]
	}
	return n.items[len(n.items)-1]
}

// put tells the node with x in it, and whether x's key is new. It may have an item too many.
func (n node) put(x item) (node, bool) {
	i, here := n.find(x.key)
	switch {
	case here:
		return node{items: spliced(n.items, i, i+1, x), kids: n.kids}, false
	case n.inner():
		kid, isNew := n.kids[i].put(x)
		return n.with(i, kid), isNew
	}
	return node{items: spliced(n.items, i, i, x)}, true
}

// del tells the node without key, which may have an item too few; ErrPlace, if key isn't there.
func (n node) del(key string) (node, error) {
	i, here := n.find(key)
	switch {
	case n.inner() && here: // the last item ahead of it takes its place, and is taken from a leaf instead
		x := n.kids[i].last()
		n.items = spliced(n.items, i, i+1, x)
		key = x.key
		fallthrough
	case n.inner():
		kid, err := n.kids[i].del(key)
		if err != nil {
			return node{}, wrapped(err, i)
		}
		return n.with(i, kid), nil
	case here:
		return node{items: spliced(n.items, i, i+1)}, nil
	}
	return node{}, wrapped(api.ErrPlace, i)
}

// with tells n with kid in place i, which may have an item too many or too few; then n may have one more or fewer.
func (n node) with(i int, kid node) node {
	n.kids = spliced(n.kids, i, i+1, kid)
	switch {
	case len(kid.items) < fewest:
		i = min(i, len(n.items)-1) // the last kid has a neighbour ahead of it alone
		n = n.joined(i)
		fallthrough
	case len(kid.items) > most:
		n = n.parted(i)
	}
	return n
}

// joined tells n with kids i and i + 1, and the item between them, as one kid.
func (n node) joined(i int) node {
	left, right := n.kids[i], n.kids[i+1]
	kid := node{
		items: slices.Concat(left.items, n.items[i:i+1], right.items),
		kids:  slices.Concat(left.kids, right.kids),
	}
	return node{items: spliced(n.items, i, i+1), kids: spliced(n.kids, i, i+2, kid)}
}

// parted tells n with kid i as two kids and the item between them, if it has too many items.
func (n node) parted(i int) node {
	kid := n.kids[i]
	if len(kid.items) <= most {
		return n
	}
	half := len(kid.items) / 2
	left, right := node{items: slices.Clone(kid.items[:half])}, node{items: slices.Clone(kid.items[half+1:])}
	if kid.inner() {
		left.kids, right.kids = slices.Clone(kid.kids[:half+1]), slices.Clone(kid.kids[half+1:])
	}
	return node{items: spliced(n.items, i, i, kid.items[half]), kids: spliced(n.kids, i, i+1, left, right)}
}

// rooted tells n, which may have an item too many or none, as a root.
func rooted(n node) node {
	switch {
	case len(n.items) > most:
		return node{kids: []node{n}}.parted(0)
	case len(n.items) == 0 && n.inner():
		return n.kids[0]
	}
	return n
}

// wrapped tells err as one that a node met at its place i. So an error that comes up to the root tells the way to where it began.
func wrapped(err error, i int) error {
	return &api.Within{Part: "place " + strconv.Itoa(i), Err: err}
}

// spliced tells l with x in place of those from i to j, as a new list.
func spliced[T any](l []T, i, j int, x ...T) []T {
	return slices.Concat(l[:i], x, l[j:])
}
