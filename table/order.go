package table

import (
	"bytes"
	"slices"

	"consistory/api"
	"consistory/btree"
	"consistory/value"
	"consistory/wire"
)

// order: rows by their values in some columns, then by Id, so that no two of them stand at one place.
type order struct {
	cols []int
	tree *btree.Tree // at each place the row's bytes
}

func newOrder(cols []int) order { return order{cols: cols, tree: btree.New()} }

func (o order) clone() order { return order{cols: o.cols, tree: o.tree.Clone()} }

// own tells the values that r has in the order's columns.
func (o order) own(r api.Row) []api.Value {
	var l []api.Value
	for _, n := range o.cols {
		l = append(l, r.Vals[n])
	}
	return l
}

func (o order) place(r api.Row) []byte { return placeOf(append(o.own(r), idValue(r.Id))...) }

func (o order) put(r api.Row) { o.tree.Put(o.place(r), bytesOf(r)) }

func (o order) del(r api.Row) { o.tree.Del(o.place(r)) }

// has: whether there is a row with these values in the first columns.
func (o order) has(l []api.Value) bool {
	ahead := placeOf(l...)
	place, _, ok := o.tree.Seek(ahead).Next()
	return ok && bytes.HasPrefix(place, ahead)
}

// rows tells those that w asks for, which is a way by this order, as they stand in it.
func (o order) rows(w api.Way) []api.Row {
	var out []api.Row
	ahead := placeOf(w.Eq...)
	c := o.tree.Seek(o.first(w))
	for {
		place, b, ok := c.Next()
		if !ok || !bytes.HasPrefix(place, ahead) {
			return out
		}
		r := rowOf(b)
		if w.HasLo || w.HasHi {
			next := r.Vals[o.cols[len(w.Eq)]]
			switch {
			case next.Kind == api.Null:
				continue
			case w.HasHi && value.Compare(next, w.Hi) > 0:
				return out
			}
		}
		out = append(out, r)
	}
}

// first tells a place that none of the rows that w asks for stands ahead of.
func (o order) first(w api.Way) []byte {
	if !w.HasLo {
		return placeOf(w.Eq...)
	}
	return placeOf(slices.Concat(w.Eq, []api.Value{w.Lo})...)
}

// placeOf tells where rows with these values ahead begin: all of them have its bytes at their places' beginnings, and no others have, since no value's bytes are the beginning of another one's. (There is no error of Key: the values may be, and there are fewer than it takes.)
func placeOf(l ...api.Value) []byte {
	b, _ := value.Key(l)
	return b
}

// idValue tells an Id as a value: rows' Ids are below 2^62, so their values rise as they do; whatever other number is asked for, it is none of theirs.
func idValue(id uint64) api.Value { return api.Value{Kind: api.Int, Int: int64(id)} }

// bytesOf tells a row that may be as bytes, the Id ahead of the values.
func bytesOf(r api.Row) []byte {
	b, _ := wire.PutRow(slices.Concat([]api.Value{idValue(r.Id)}, r.Vals))
	return b
}

// rowOf reads what bytesOf wrote.
func rowOf(b []byte) api.Row {
	l, _, _ := wire.Row(b)
	return api.Row{Id: uint64(l[0].Int), Vals: l[1:]}
}
