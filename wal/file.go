package wal

import (
	"errors"
	"strings"

	"consistory/api"
	"consistory/simdisk"
)

// The log is one file. One that is written anew has another name until it is sure.
const (
	prefix  = "wal"
	logFile = prefix
	newFile = prefix + ".new"
)

// leastLimit: up to that many bytes a file isn't written anew, however little of it is needed: what is pending is made sure by that, too, ahead of its Sync.
const leastLimit = 32768

// limitOf: of a file that has b: it is written anew once as much again is behind it, so that many calls pay for it. Entries of 16384 bytes by P3.4 take less than 17000, so a file and the new one beside it less than 51000.
func limitOf(b []byte) int { return max(leastLimit, 2*len(b)) }

// home tells the disk; the zero Wal has one without room.
func (w *Wal) home() *simdisk.Disk {
	if w.disk == nil {
		return simdisk.New(0)
	}
	return w.disk
}

// replay takes the records of b, up to the first one that isn't whole; the error tells where that begins.
func (s *state) replay(b []byte) error {
	for at := 0; at < len(b); {
		r, size, err := unframe(b[at:])
		if err == nil {
			err = s.take(r)
		}
		if err != nil {
			return &api.Placed{At: at, Err: err}
		}
		at += size
	}
	return nil
}

// torn: whether err is of bytes that end the log. A fall leaves them short; others no wal wrote, and what is behind them can't be told either.
func torn(err error) bool {
	return errors.Is(err, api.ErrShort) || errors.Is(err, api.ErrSum) || errors.Is(err, api.ErrForm) || errors.Is(err, api.ErrPlace)
}

// mend takes away what a fall left on the disk that isn't the wal's state: files that aren't the log's, and a torn end, of which end is what replay told.
func (w *Wal) mend(end error) error {
	for _, name := range w.disk.List() {
		if name == logFile || !strings.HasPrefix(name, prefix) {
			continue
		}
		if err := w.disk.Remove(name); err != nil {
			return err
		}
	}
	var whole *api.Placed
	if !torn(end) || !errors.As(end, &whole) {
		return nil
	}
	w.size = whole.At
	return w.disk.Truncate(logFile, w.size)
}

// bytes tells the shortest file whose state is s.
func (s *state) bytes() ([]byte, error) {
	records := []record{
		{kind: dropRecord, place: s.base, term: s.baseTerm},
		{kind: hardRecord, place: s.vote, term: s.term},
	}
	for _, e := range s.entries {
		records = append(records, record{kind: entryRecord, entry: e})
	}
	var b []byte
	for _, r := range records {
		f, err := r.frame()
		if err != nil {
			return nil, err
		}
		b = append(b, f...)
	}
	return b, nil
}

// write brings the state next onto the disk, by b behind the file, or by a new file; if the disk is too full for the one, by the other.
func (w *Wal) write(next state, b []byte) error {
	if w.size+len(b) > w.limit {
		err := w.rewrite(next)
		if !errors.Is(err, api.ErrFull) {
			return err
		}
		return w.lengthen(b)
	}
	err := w.lengthen(b)
	if !errors.Is(err, api.ErrFull) {
		return err
	}
	return w.rewrite(next)
}

func (w *Wal) lengthen(b []byte) error {
	if err := w.home().Append(logFile, b); err != nil {
		return err
	}
	w.size += len(b)
	return nil
}

// rewrite makes a file of next alone the log's. It is sure ahead of the Rename: at a fall there is the old file, or all of the new one.
func (w *Wal) rewrite(next state) error {
	b, err := next.bytes()
	if err != nil {
		return err
	}
	d := w.home()
	if err := d.Append(newFile, b); err != nil {
		return err
	}
	if err := d.Sync(newFile); err != nil {
		return err
	}
	if err := d.Rename(newFile, logFile); err != nil {
		return err
	}
	w.size, w.limit = len(b), limitOf(b)
	return nil
}
