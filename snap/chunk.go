package snap

import (
	"bytes"

	"consistory/api"
)

// Chunk: the bytes of s from off on that go in one message, and whether they are the last ones.
func Chunk(s api.Snapshot, off int) ([]byte, bool, error) {
	if off < 0 || off > len(s.Data) {
		return nil, false, &api.Placed{At: off, Err: api.ErrPlace}
	}
	end := min(len(s.Data), off+api.ChunkSize)
	return bytes.Clone(s.Data[off:end]), end == len(s.Data), nil
}

// Builder: a snapshot that comes in chunks: its bytes so far.
type Builder struct {
	index, term uint64
	data        []byte
	whole       bool
}

// Begin: a builder that has nothing.
func Begin(index, term uint64) *Builder {
	return &Builder{index: index, term: term}
}

// Add: data behind what is there, if it belongs there; how many bytes there are, and whether the snapshot is whole.
func (b *Builder) Add(off int, data []byte, done bool) (int, bool) {
	if b.fits(off, data) {
		b.data = append(b.data, data...)
		b.whole = done
	}
	return len(b.data), b.whole
}

func (b *Builder) fits(off int, data []byte) bool {
	return !b.whole && off == len(b.data) && len(data) <= maxData-len(b.data)
}

// Snapshot: what was built, once it is whole.
func (b *Builder) Snapshot() (api.Snapshot, bool) {
	if !b.whole {
		return api.Snapshot{}, false
	}
	return api.Snapshot{Index: b.index, Term: b.term, Data: bytes.Clone(b.data)}, true
}

// Index: that of the snapshot.
func (b *Builder) Index() uint64 { return b.index }
