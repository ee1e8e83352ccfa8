package wal

import (
	"consistory/api"
)

const (
	mostVote  = 1000
	mostIndex = 1 << 62 // of a base
)

// state: what a wal tells. The vote is kept with one added, so that the zero state is that of an empty disk.
type state struct {
	term, vote     uint64
	base, baseTerm uint64
	entries        []api.Entry
}

func (s *state) hard() api.Hard {
	return api.Hard{Term: s.term, Vote: int(s.vote) - 1}
}

func (s *state) last() uint64 { return s.base + uint64(len(s.entries)) }

// take changes s as r says. A copy of s made ahead of it keeps what it told: an entry is written behind those that both have.
func (s *state) take(r record) error {
	switch r.kind {
	case hardRecord:
		return s.set(r.term, r.place)
	case dropRecord:
		return s.drop(r.place, r.term)
	case cutRecord:
		return s.cut(r.place)
	}
	s.entries = append(s.entries, r.entry)
	return nil
}

func (s *state) set(term, vote uint64) error {
	if vote > mostVote+1 {
		return refusal("vote", api.ErrForm)
	}
	s.term, s.vote = term, vote
	return nil
}

func (s *state) drop(index, term uint64) error {
	if index < s.base || index > mostIndex {
		return refusal("drop", api.ErrPlace)
	}
	gone := min(index-s.base, uint64(len(s.entries)))
	s.base, s.baseTerm, s.entries = index, term, s.entries[gone:]
	return nil
}

func (s *state) cut(from uint64) error {
	if from <= s.base || from > s.last()+1 {
		return refusal("cut", api.ErrPlace)
	}
	s.entries = s.entries[:from-s.base-1]
	return nil
}

// refusal wraps a class with what it is of.
func refusal(part string, class api.Class) error {
	return &api.Within{Part: part, Err: class}
}
