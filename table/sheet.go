package table

import (
	"slices"
	"strconv"

	"consistory/api"
	"consistory/btree"
)

// lastNext: the greatest Next.
const lastNext = 1 << 62

// sheet: a table with its rows: in one order by Id alone, and in one order for each key, behind it.
type sheet struct {
	table  api.Table
	next   uint64
	orders []order
}

// newSheet tells one without rows. It keeps table.
func newSheet(table api.Table) sheet {
	s := sheet{table: table, next: 1, orders: []order{newOrder(nil)}}
	for _, k := range table.Keys {
		s.orders = append(s.orders, newOrder(k.Cols))
	}
	return s
}

// clone tells a sheet that may be changed while s stays as it is.
func (s sheet) clone() sheet {
	s.orders = slices.Clone(s.orders)
	for i, o := range s.orders {
		s.orders[i] = o.clone()
	}
	return s
}

// byId tells the rows' tree in which a place is an Id.
func (s sheet) byId() *btree.Tree { return s.orders[0].tree }

func (s sheet) count() int { return s.byId().Len() }

func (s sheet) all() []api.Row { return s.orders[0].rows(api.Way{}) }

// fill puts rows into a sheet without any, and tells what of them isn't data. Its next is at first the least Id that may come.
func (s *sheet) fill(rows []api.Row, next uint64) error {
	if next < 1 || next > lastNext {
		return api.ErrForm
	}
	if len(rows) > api.MaxRows {
		return api.ErrLimit
	}
	for _, r := range rows {
		if r.Id < s.next || r.Id >= next {
			return inRow(r.Id, api.ErrForm)
		}
		if err := s.put(r); err != nil {
			return inRow(r.Id, err)
		}
		s.next = r.Id + 1
	}
	s.next = next
	return nil
}

// put puts in a row of an Id that isn't there, in all orders, or tells what is wrong of it. Behind an error s is of no use.
func (s *sheet) put(r api.Row) error {
	for err := range faults(s.table.Cols, r.Vals) {
		return err
	}
	s.orders[0].put(r)
	for k := range s.table.Keys {
		if err := s.enter(k, r); err != nil {
			return err
		}
	}
	return nil
}

// enter puts r into the order of key k; ErrConstraint, if the key is Unique and has r's values already. A Null is like no other one there.
func (s *sheet) enter(k int, r api.Row) error {
	key, o := s.table.Keys[k], s.orders[k+1]
	if own := o.own(r); key.Unique && !slices.ContainsFunc(own, isNull) && o.has(own) {
		return named(keyName(s.table, key), api.ErrConstraint)
	}
	o.put(r)
	return nil
}

func isNull(v api.Value) bool { return v.Kind == api.Null }

// take takes the row of that Id out of all orders; ErrPlace, if it isn't there.
func (s *sheet) take(id uint64) error {
	b, ok := s.byId().Get(placeOf(idValue(id)))
	if !ok {
		return inRow(id, api.ErrPlace)
	}
	for _, o := range s.orders {
		o.del(rowOf(b))
	}
	return nil
}

// inRow wraps err with the row that it is of.
func inRow(id uint64, err error) error {
	return named("row "+strconv.FormatUint(id, 10), err)
}
