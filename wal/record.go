package wal

import (
	"strings"

	"consistory/api"
	"consistory/wire"
)

// Kinds of records.
const (
	hardRecord = iota + 1
	dropRecord
	cutRecord
	entryRecord
)

// record: of the log's file: a call, or one entry of an Append: so a fall may tear an Append between its entries, but no other call. The place of a hard one is the vote with one added.
type record struct {
	kind  byte
	term  uint64
	place uint64
	entry api.Entry
}

// hardOf: a vote below -1 wraps round to a place that is too great, so that one bound is enough.
func hardOf(h api.Hard) record {
	return record{kind: hardRecord, term: h.Term, place: uint64(h.Vote) + 1}
}

// entryOf: the entry is kept, so its text is the wal's own: the caller's may be a piece of a greater one.
func entryOf(e api.Entry) record {
	e.Sql = strings.Clone(e.Sql)
	return record{kind: entryRecord, entry: e}
}

// frame tells the record's bytes.
func (r record) frame() ([]byte, error) {
	b := []byte{r.kind}
	switch r.kind {
	case hardRecord, dropRecord:
		b = append(b, wire.PutUint(r.term)...)
		fallthrough
	case cutRecord:
		b = append(b, wire.PutUint(r.place)...)
	case entryRecord:
		e, err := wire.PutEntry(r.entry)
		if err != nil {
			return nil, err
		}
		b = append(b, e...)
	}
	return wire.Frame(b)
}

// unframe tells the record at b's beginning, and its size.
func unframe(b []byte) (record, int, error) {
	p, size, err := wire.Unframe(b)
	if err != nil {
		return record{}, 0, err
	}
	r, err := payload(p)
	if err != nil {
		return record{}, 0, err
	}
	return r, size, nil
}

// payload tells the record of which b are all bytes.
func payload(b []byte) (record, error) {
	if len(b) == 0 {
		return record{}, api.ErrForm
	}
	r := record{kind: b[0]}
	b = b[1:]
	size, err := 0, error(nil)
	switch r.kind {
	case hardRecord, dropRecord:
		if r.term, size, err = wire.Uint(b); err != nil {
			return record{}, err
		}
		b = b[size:]
		fallthrough
	case cutRecord:
		r.place, size, err = wire.Uint(b)
	case entryRecord:
		r.entry, size, err = wire.Entry(b)
	default:
		err = api.ErrForm
	}
	if err == nil && size < len(b) {
		err = api.ErrForm
	}
	return r, err
}
