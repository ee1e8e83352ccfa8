package raftlog_test

import (
	"fmt"
	"math"
	"testing"

	"consistory/api"
	"consistory/raftlog"
)

// group: logs that grow by Merge from one another's. A log that adds does so in a term of its own, until something has come to it; so of one index and term one entry alone was ever added.
type group struct {
	chance
	logs []*raftlog.Log
	own  []uint64 // the term in which each adds; 0: it needs a new one
	term uint64   // the last one
	sent []sent
}

// sent: entries of a log, as they were at some time.
type sent struct {
	prev, term uint64
	l          []api.Entry
}

func newGroup(c chance, n int) *group {
	g := &group{chance: c, own: make([]uint64, n)}
	for range n {
		g.logs = append(g.logs, raftlog.New(0, 0, nil))
	}
	return g
}

func (g *group) add(i int) {
	if g.own[i] == 0 || g.chance(10) == 0 {
		g.term++
		g.own[i] = g.term
	}
	last, _ := g.logs[i].Last()
	g.logs[i].Add(api.Entry{Term: g.own[i], Sql: fmt.Sprint("of ", i, " at ", last+1, " in ", g.own[i])})
}

// part tells some of a log's entries.
func (g *group) part(i int) sent {
	base, _ := g.logs[i].Base()
	last, _ := g.logs[i].Last()
	prev := base + uint64(g.chance(int(last-base)+1))
	term, _ := g.logs[i].Term(prev)
	return sent{prev, term, g.logs[i].Entries(prev+1, g.chance(6))}
}

// bring merges; where it is refused the entries from the told place on are brought, as a node does.
func (g *group) bring(t *testing.T, s sent, from, to int, commit uint64) {
	t.Helper()
	g.own[to] = 0
	for range 1000 {
		told, _, err := g.logs[to].Merge(s.prev, s.term, s.l, commit)
		if err == nil {
			return
		}
		if told >= s.prev {
			t.Fatalf("P19.2: refused at %d, and again at %d", s.prev, told)
		}
		term, err := g.logs[from].Term(told)
		if err != nil {
			return
		}
		s = sent{told, term, g.logs[from].Entries(told+1, 1+g.chance(6))}
	}
	t.Fatal("P19.2: it is refused again and again")
}

// has tells whether a log has an entry, or its base, at an index.
func (g *group) has(i int, index uint64) bool {
	_, err := g.logs[i].Term(index)
	return err == nil
}

// agreed tells up to where all logs are alike.
func (g *group) agreed() uint64 {
	for i := uint64(1); ; i++ {
		if base, _ := g.logs[0].Base(); i <= base {
			continue
		}
		term, err := g.logs[0].Term(i)
		if err != nil {
			return i - 1
		}
		for _, l := range g.logs[1:] {
			base, _ := l.Base()
			if got, err := l.Term(i); i > base && (err != nil || got != term) {
				return i - 1
			}
		}
	}
}

// hold tells of two logs that have an entry of one index and term, and aren't alike up to it. It answers how many such pairs there were, and of how many one log had another entry behind.
func (g *group) hold(t *testing.T) (int, int) {
	t.Helper()
	same, unlike := 0, 0
	for n, a := range g.logs {
		for _, b := range g.logs[:n] {
			var apart bool
			var meets uint64
			base, _ := a.Base()
			other, _ := b.Base()
			base = max(base, other)
			for k, e := range a.Entries(base+1, math.MaxInt) {
				l := b.Entries(base+1+uint64(k), 1)
				if len(l) == 0 {
					break
				}
				if l[0].Term != e.Term {
					apart = true
					continue
				}
				meets++
				if apart || l[0] != e {
					t.Fatalf("P19.4: at %d: %s, and %s", base+1+uint64(k), say(a), say(b))
				}
			}
			if meets > 0 {
				same++
			}
			if meets > 0 && apart {
				unlike++
			}
		}
	}
	return same, unlike
}

// TestLogsStayAlike: P19.4, of entries that come at once to logs that are compacted, with commits that all agree on.
func TestLogsStayAlike(t *testing.T) {
	t.Parallel()
	same, unlike, compacted := 0, 0, 0
	for seed := range int64(60) {
		g := newGroup(byChance(seed), 2+int(seed%4))
		for range 300 {
			i, j := g.chance(len(g.logs)), g.chance(len(g.logs))
			commit := uint64(g.chance(int(g.agreed()) + 1))
			switch n := g.chance(20); {
			case n < 8:
				g.add(i)
			case n == 8:
				if g.logs[i].Compact(commit) == nil && commit > 0 {
					compacted++
				}
			case n == 9:
				if term, err := g.logs[j].Term(commit); err == nil && g.has(i, commit) {
					g.logs[i].Reset(commit, term)
				}
			case i != j:
				g.bring(t, g.part(i), i, j, commit)
			}
			a, b := g.hold(t)
			same, unlike = same+a, unlike+b
		}
	}
	if same < 5000 || unlike < 1000 || compacted < 100 {
		t.Errorf("too little is tried: %d, %d, %d", same, unlike, compacted)
	}
}

// TestLateEntries: P19.4, of entries that come late, twice, or never.
func TestLateEntries(t *testing.T) {
	t.Parallel()
	same, unlike := 0, 0
	for seed := range int64(60) {
		g := newGroup(byChance(seed), 2+int(seed%4))
		for range 300 {
			i := g.chance(len(g.logs))
			switch n := g.chance(10); {
			case n < 3:
				g.add(i)
			case n < 6:
				g.sent = append(g.sent, g.part(i))
			case len(g.sent) > 0:
				s := pick(g.chance, g.sent...)
				g.own[i] = 0
				g.logs[i].Merge(s.prev, s.term, s.l, 0)
			}
			a, b := g.hold(t)
			same, unlike = same+a, unlike+b
		}
	}
	if same < 5000 || unlike < 500 {
		t.Errorf("too little is tried: %d, %d", same, unlike)
	}
}
