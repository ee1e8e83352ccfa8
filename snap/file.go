package snap

import (
	"strings"

	"consistory/api"
	"consistory/simdisk"
	"consistory/wire"
)

// The newest snapshot is one file. A newer one has another name until it is sure.
const (
	prefix   = "snap"
	snapFile = prefix
	newFile  = prefix + ".new"
)

// noSnapshot: of a file's bytes that are no whole snapshot, so that they are told from what the disk answers.
type noSnapshot struct{ err error }

// Error tells what is wrong with them.
func (n *noSnapshot) Error() string { return "no snapshot: " + n.err.Error() }

// Unwrap tells what is wrapped.
func (n *noSnapshot) Unwrap() error { return n.err }

// pack tells a snapshot's bytes.
func pack(s api.Snapshot) ([]byte, error) {
	if len(s.Data) > maxData {
		return nil, api.ErrForm
	}
	b := append(wire.PutUint(s.Index), wire.PutUint(s.Term)...)
	return wire.Frame(append(b, s.Data...))
}

// unpack tells the snapshot at b's beginning.
func unpack(b []byte) (api.Snapshot, error) {
	p, _, err := wire.Unframe(b)
	if err != nil {
		return api.Snapshot{}, err
	}
	index, size, err := wire.Uint(p)
	if err != nil {
		return api.Snapshot{}, err
	}
	p = p[size:]
	term, size, err := wire.Uint(p)
	if err != nil {
		return api.Snapshot{}, err
	}
	p = p[size:]
	if len(p) > maxData {
		return api.Snapshot{}, api.ErrForm
	}
	return api.Snapshot{Index: index, Term: term, Data: p}, nil
}

// read tells the snapshot that is on d: the disk's error, or a noSnapshot.
func read(d *simdisk.Disk) (api.Snapshot, error) {
	b, err := d.Read(snapFile)
	if err != nil {
		return api.Snapshot{}, err
	}
	s, err := unpack(b)
	if err != nil {
		return api.Snapshot{}, &noSnapshot{err}
	}
	return s, nil
}

// sweep takes away all files of snap's but a whole snapshot (there: there is one): a fall left them, and they take room.
func sweep(d *simdisk.Disk, there bool) error {
	for _, name := range d.List() {
		if !strings.HasPrefix(name, prefix) || there && name == snapFile {
			continue
		}
		if err := d.Remove(name); err != nil {
			return err
		}
	}
	return nil
}

// replace makes a file of b the snapshot's. It is sure ahead of the Rename: at a fall there is the old file, or all of the new one.
func replace(d *simdisk.Disk, b []byte) error {
	if err := d.Append(newFile, b); err != nil {
		return err
	}
	if err := d.Sync(newFile); err != nil {
		return err
	}
	return d.Rename(newFile, snapFile)
}
