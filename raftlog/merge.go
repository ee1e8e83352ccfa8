package raftlog

import (
	"errors"
	"slices"

	"consistory/api"
)

// How an entry of another log stands to this one.
const (
	known  = iota // it is there, or another one that is committed, or is the base's
	unlike        // another one is there
	absent        // none is there
)

// Merge: the entries l2 that another log has behind prev are this one's, too; what it has of others goes, but for what is committed.
func (l *Log) Merge(prev, term uint64, l2 []api.Entry, commit uint64) (uint64, uint64, error) {
	if prev < l.base {
		l2 = l2[min(l.base-prev, uint64(len(l2))):]
		prev, term = l.Base()
	}
	if err := l.meets(prev, term); err != nil {
		return nearest(err), 0, err
	}
	return prev + uint64(len(l2)), l.take(prev+1, l2, commit), nil
}

// meets tells ErrWait, and where to try again, if the log has no entry of that index and term.
func (l *Log) meets(prev, term uint64) error {
	have, err := l.Term(prev)
	switch {
	case errors.Is(err, api.ErrPlace):
		return &apart{index: prev, near: nearest(err), err: api.ErrWait}
	case have == term:
		return nil
	case prev == l.base:
		return &apart{index: prev, near: prev, err: api.ErrWait}
	}
	return &apart{index: prev, near: prev - 1, err: api.ErrWait}
}

// take makes l2 the entries from an index on, as far as they aren't there or stand behind commit. It tells the first index at which the log has changed (0: at none).
func (l *Log) take(from uint64, l2 []api.Entry, commit uint64) uint64 {
	for k, e := range l2 {
		i := from + uint64(k)
		switch l.stand(i, e.Term, commit) {
		case unlike:
			l.cut(i)
			fallthrough
		case absent:
			l.add(l2[k:])
			return i
		}
	}
	return 0
}

// stand tells how an entry of index i and that term stands to the log.
func (l *Log) stand(i, term, commit uint64) int {
	have, err := l.Term(i)
	switch {
	case errors.Is(err, api.ErrPlace):
		return absent
	case have == term || i <= commit:
		return known
	}
	return unlike
}

// cut takes the entries from an index on away. (Delete clears them, so that nothing of them is kept.)
func (l *Log) cut(from uint64) {
	stay := len(l.entries) - len(l.behind(from-1))
	l.entries = slices.Delete(l.entries, stay, len(l.entries))
}
