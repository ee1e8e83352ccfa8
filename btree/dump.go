package btree

import (
	"errors"

	"consistory/api"
	"consistory/wire"
)

// Dump: all keys with their values, as bytes.
func (t *Tree) Dump() []byte { return t.root.dump(wire.PutUint(uint64(t.size))) }

// dump writes behind b.
func (n node) dump(b []byte) []byte {
	for i := range len(n.items) + 1 {
		if n.inner() {
			b = n.kids[i].dump(b)
		}
		if i < len(n.items) {
			b = appendText(appendText(b, n.items[i].key), n.items[i].value)
		}
	}
	return b
}

func appendText(b []byte, s string) []byte {
	return append(append(b, wire.PutUint(uint64(len(s)))...), s...)
}

// Load: the tree of which Dump tells just b.
func Load(b []byte) (*Tree, error) {
	r := &reader{b: b}
	size, err := r.number()
	if err != nil {
		return nil, err
	}
	root, err := r.node(size+1, spanOf(size+1))
	if err != nil {
		return nil, err
	}
	if r.at < len(b) {
		return nil, r.fault(api.ErrForm)
	}
	return &Tree{root: root, size: size}, nil
}

// reader goes over a dump; from: the least key that may stand next.
type reader struct {
	b    []byte
	at   int
	from string
}

// spanOf tells the span of a root with so many gaps: a power of what a node has room for, so that all leaves are equally deep.
func spanOf(gaps int) int {
	span := 1
	for span*(most+1) < gaps {
		span *= most + 1
	}
	return span
}

// node reads a node of a new tree. Its gaps are the places ahead of, between and behind all items at and below it; span is how many of them a kid may have (1: the node is a leaf). They are shared out evenly among as few kids as will do, which are two at least: so none has less than half of the span, and no node but the root too few items.
func (r *reader) node(gaps, span int) (node, error) {
	var n node
	places := (gaps + span - 1) / span
	for i := range places {
		if i > 0 {
			x, err := r.item()
			if err != nil {
				return node{}, wrapped(err, i-1)
			}
			n.items = append(n.items, x)
		}
		if span == 1 {
			continue
		}
		kid, err := r.node((gaps+i)/places, span/(most+1))
		if err != nil {
			return node{}, wrapped(err, i)
		}
		n.kids = append(n.kids, kid)
	}
	return n, nil
}

func (r *reader) item() (item, error) {
	at := r.at
	key, err := r.text()
	if err != nil {
		return item{}, err
	}
	if key < r.from {
		r.at = at
		return item{}, r.fault(api.ErrForm)
	}
	r.from = behind(key)
	value, err := r.text()
	if err != nil {
		return item{}, err
	}
	return item{key: key, value: value}, nil
}

func (r *reader) text() (string, error) {
	size, err := r.number()
	if err != nil {
		return "", err
	}
	r.at += size
	return string(r.b[r.at-size : r.at]), nil
}

// number reads how many there are of something that stands behind it, which takes a byte each at least: so a greater number than of bytes is none.
func (r *reader) number() (int, error) {
	n, size, err := wire.Uint(r.b[r.at:])
	if err != nil {
		return 0, r.fault(err)
	}
	if n > uint64(len(r.b)-r.at-size) {
		return 0, r.fault(api.ErrForm)
	}
	r.at += size
	return int(n), nil
}

// fault tells err of what begins at the reader's place by its byte in the whole. It is an ErrForm whatever it was: bytes that end within a dump are none.
func (r *reader) fault(err error) error {
	at := r.at
	var p *api.Placed
	if errors.As(err, &p) {
		at += p.At
	}
	return &api.Placed{At: at, Err: api.ErrForm}
}
