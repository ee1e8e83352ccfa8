package raftlog_test

import (
	"fmt"

	"consistory/api"
)

// model: a second saying of the chapter: what stands at each index, and how many do.
type model struct {
	base, term uint64
	at         map[uint64]api.Entry
}

func newModel(base, term uint64, l []api.Entry) *model {
	m := &model{base: base, term: term, at: map[uint64]api.Entry{}}
	for _, e := range l {
		m.add(e)
	}
	return m
}

func (m *model) last() uint64 { return m.base + uint64(len(m.at)) }

// has tells whether the base or an entry is at i.
func (m *model) has(i uint64) bool {
	_, ok := m.at[i]
	return ok || i == m.base
}

// termOf tells 0 where there is nothing.
func (m *model) termOf(i uint64) uint64 {
	if i == m.base {
		return m.term
	}
	return m.at[i].Term
}

func (m *model) entries(from uint64, most int) []api.Entry {
	var out []api.Entry
	for i := max(from, m.base+1); len(out) < most; i++ {
		e, ok := m.at[i]
		if !ok {
			break
		}
		out = append(out, e)
	}
	return out
}

func (m *model) add(e api.Entry) uint64 {
	i := m.last() + 1
	m.at[i] = e
	return i
}

func (m *model) newer(index, term uint64) bool {
	if own := m.termOf(m.last()); term != own {
		return term > own
	}
	return index >= m.last()
}

func (m *model) merge(prev, term uint64, l2 []api.Entry, commit uint64) (uint64, uint64, api.Class) {
	if prev < m.base {
		for ; prev < m.base && len(l2) > 0; prev++ {
			l2 = l2[1:]
		}
		prev, term = m.base, m.term
	}
	if prev > m.last() {
		return m.last(), 0, api.ErrWait
	}
	if m.termOf(prev) != term {
		return max(prev, m.base+1) - 1, 0, api.ErrWait
	}
	told := prev + uint64(len(l2))
	for i := prev + 1; i <= told; i++ {
		there := i <= m.last()
		if there && (m.termOf(i) == l2[i-prev-1].Term || i <= commit) {
			continue
		}
		for j := m.last(); j >= i; j-- {
			delete(m.at, j)
		}
		for j := i; j <= told; j++ {
			m.at[j] = l2[j-prev-1]
		}
		return told, i, 0
	}
	return told, 0, 0
}

func (m *model) compact(index uint64) api.Class {
	if !m.has(index) {
		return api.ErrPlace
	}
	m.reset(index, m.termOf(index))
	return 0
}

func (m *model) reset(index, term uint64) {
	fits := m.has(index) && m.termOf(index) == term
	for i := m.last(); i > m.base; i-- {
		if i <= index || !fits {
			delete(m.at, i)
		}
	}
	m.base, m.term = index, term
}

func (m *model) say() string {
	return fmt.Sprint(m.base, " of ", m.term, ": ", sayEntries(m.entries(0, len(m.at))))
}
