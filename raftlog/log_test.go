package raftlog_test

import (
	"fmt"
	"math"
	"slices"
	"testing"

	"consistory/api"
	"consistory/raftlog"
)

// logs: without and with a base, of one entry, of many, of terms that don't rise.
var logs = []struct {
	base, term uint64
	terms      []uint64
}{
	{0, 0, nil},
	{0, 0, []uint64{1}},
	{0, 0, []uint64{1, 1, 2}},
	{0, 7, []uint64{7, 7}},
	{5, 1, nil},
	{5, 1, []uint64{1, 1, 2}},
	{5, 2, []uint64{3}},
	{9, 3, []uint64{1, 4, 2, 2, 9, 0}},
	{1, 0, []uint64{0, 0, 0}},
	{1<<62 - 10, math.MaxUint64, []uint64{math.MaxUint64, 0, math.MaxUint64 - 1}},
	{3, 1, slices.Repeat([]uint64{1, 2, 3}, 100)},
}

func TestLogs(t *testing.T) {
	for _, c := range logs {
		p := paired(c.base, c.term, of("own", c.terms...))
		p.holdAll(t)
		for i := range uint64(20) {
			p.add(t, of("more", c.term+i/3)[0])
		}
		p.holdAll(t)
	}
}

// TestEntriesAreWhole: P19.1: each field of an entry is as it was handed in.
func TestEntriesAreWhole(t *testing.T) {
	l := []api.Entry{
		{},
		{Term: math.MaxUint64, Kind: api.EnCommand, Client: math.MaxUint64, Seq: 1 << 63, Sql: "SELECT"},
		{Term: 0, Kind: -1, Sql: "\xff\x00"},
		{Term: 1, Kind: math.MaxInt, Client: 5},
		{Seq: 5},
	}
	added, merged := raftlog.New(4, 1, nil), raftlog.New(4, 1, nil)
	for i, e := range l {
		if got := added.Add(e); got != uint64(5+i) {
			t.Errorf("P19.1: Add: %d", got)
		}
	}
	if told, from, err := merged.Merge(4, 1, l, 0); told != 9 || from != 5 || err != nil {
		t.Errorf("P19.2: %d, %d, %v", told, from, err)
	}
	for how, x := range map[string]*raftlog.Log{"New": raftlog.New(4, 1, l), "Add": added, "Merge": merged} {
		for range 2 {
			if got := x.Entries(0, 9); !slices.Equal(got, l) {
				t.Errorf("P19.1: %s: %+v", how, got)
			}
		}
		if err := x.Compact(6); err != nil || !slices.Equal(x.Entries(0, 9), l[2:]) {
			t.Errorf("P19.3: %s: %+v", how, x.Entries(0, 9))
		}
	}
}

// TestNilAndEmpty: rule 2: no list and an empty one are the same.
func TestNilAndEmpty(t *testing.T) {
	for _, l := range [][]api.Entry{nil, {}, of("gone", 1, 2)[:0]} {
		paired(3, 2, l).holdAll(t)
		p := paired(3, 2, of("own", 1))
		p.merge(t, 3, 2, l, 0)
		p.merge(t, 4, 1, l, 0)
		p.holdAll(t)
	}
}

// TestZeroLog: a Log that New didn't make is one without a base.
func TestZeroLog(t *testing.T) {
	pair{&raftlog.Log{}, newModel(0, 0, nil)}.holdAll(t)
	p := pair{&raftlog.Log{}, newModel(0, 0, nil)}
	p.add(t, of("own", 4)[0])
	p.merge(t, 0, 0, of("other", 4, 5, 6), 0)
	p.compact(t, 2)
	p.reset(t, 9, 1)
	p.holdAll(t)
}

// TestNewer: P19.1: the term is looked at ahead of the index.
func TestNewer(t *testing.T) {
	for _, c := range []struct {
		base, term uint64
		terms      []uint64
		index, of  uint64
		want       bool
	}{
		{0, 0, nil, 0, 0, true},
		{0, 0, nil, 5, 0, true},
		{0, 0, nil, 0, 1, true},
		{4, 2, nil, 4, 2, true},
		{4, 2, nil, 3, 2, false},
		{4, 2, nil, 5, 1, false},
		{4, 2, nil, 0, 3, true},
		{4, 2, []uint64{3}, 5, 3, true},
		{4, 2, []uint64{3}, 4, 3, false},
		{4, 2, []uint64{3}, 6, 3, true},
		{4, 2, []uint64{3}, math.MaxUint64, 2, false},
		{4, 2, []uint64{3}, 0, 4, true},
		{4, 2, []uint64{3, 1}, 6, 1, true},
		{4, 2, []uint64{3, 1}, 5, 1, false},
		{4, 2, []uint64{3, 1}, 0, 2, true},
		{4, 2, []uint64{math.MaxUint64}, 4, math.MaxUint64, false},
		{4, 2, []uint64{math.MaxUint64}, math.MaxUint64, math.MaxUint64, true},
	} {
		if got := raftlog.New(c.base, c.term, of("own", c.terms...)).Newer(c.index, c.of); got != c.want {
			t.Errorf("P19.1: %d of %d, %v: Newer(%d, %d): %v", c.base, c.term, c.terms, c.index, c.of, got)
		}
	}
}

// TestMissed: P19.1, P19.3: indexes that aren't there are told as such, with nothing beside that; the log stays.
func TestMissed(t *testing.T) {
	for _, c := range logs {
		p := paired(c.base, c.term, of("own", c.terms...))
		for _, i := range []uint64{p.x.base - 1, p.x.last() + 1, p.x.last() + 2, 0, 1 << 62, 1 << 63, math.MaxUint64} {
			if p.x.has(i) {
				continue
			}
			p.term(t, i)
			if c := p.compact(t, i); c != api.ErrPlace {
				t.Errorf("P19.3: %s: Compact(%d): class %d", say(p.l), i, c)
			}
		}
		p.holdAll(t)
	}
}

// TestGreatBases: rule 1: of a base above 2^62 nothing is promised but that each call ends.
func TestGreatBases(t *testing.T) {
	great := []uint64{1 << 62, 1 << 63, math.MaxUint64 - 3, math.MaxUint64 - 2, math.MaxUint64 - 1, math.MaxUint64}
	for _, base := range great {
		for _, i := range append(great, 0, 1, 2, base-1, base+1, base+2, base+3, base+4) {
			for _, n := range most {
				raftlog.New(base, 1, of("own", 1, 1, 2)).Entries(i, n)
			}
			for _, l := range []*raftlog.Log{raftlog.New(base, 1, of("own", 1, 1, 2)), raftlog.New(base, 1, nil), raftlog.New(0, 1, of("own", 1))} {
				l.Last()
				l.Term(i)
				l.Newer(i, 2)
				l.Add(api.Entry{Term: 3})
				l.Merge(i, 1, of("other", 1, 2, 3, 4, 5), 0)
				l.Merge(base, 1, of("other", 1, 2, 3, 4, 5), i)
				l.Compact(i)
				l.Reset(i, 1)
				l.Add(api.Entry{Term: 3})
				l.Merge(i, 1, of("other", 1, 2, 3, 4, 5), 0)
				l.Reset(base, 2)
				l.Entries(0, 9)
			}
		}
	}
}

// TestCompact: P19.3: at each index of each log.
func TestCompact(t *testing.T) {
	for _, c := range logs {
		for i := range uint64(len(c.terms) + 1) {
			p := paired(c.base, c.term, of("own", c.terms...))
			if class := p.compact(t, c.base+i); class != 0 {
				t.Errorf("P19.3: Compact(%d): class %d", c.base+i, class)
			}
			p.holdAll(t)
			p.compact(t, c.base+i)
			p.add(t, of("more", 5)[0])
			p.compact(t, c.base+i+1)
			p.holdAll(t)
		}
	}
}

// TestReset: P19.3: at each index of each log, and beside it, of its term and of others.
func TestReset(t *testing.T) {
	stay := map[bool]int{}
	for _, c := range logs {
		own := paired(c.base, c.term, of("own", c.terms...))
		for _, i := range own.places() {
			if i > 1<<62-20 {
				continue
			}
			term := own.x.termOf(i)
			for _, term := range []uint64{term, term - 1, term + 1, 0, math.MaxUint64} {
				p := paired(c.base, c.term, of("own", c.terms...))
				p.reset(t, i, term)
				stay[p.x.last() > i]++
				p.add(t, of("more", 5)[0])
				p.reset(t, i, term)
				p.holdAll(t)
			}
		}
	}
	if stay[true] < 40 || stay[false] < 40 {
		t.Errorf("too little is tried: %v", stay)
	}
}

// TestExample: the chapter's.
func TestExample(t *testing.T) {
	l := raftlog.New(0, 0, of("own", 1, 1, 2))
	told, from, err := l.Merge(1, 1, of("other", 3), 0)
	if got := fmt.Sprint(told, " ", from, " ", err, " ", say(l)); got != "2 2 <nil> 0 of 0: 1 own0, 3 other0" {
		t.Errorf("P19.2: %s", got)
	}
}
