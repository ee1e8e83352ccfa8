package raftlog_test

import (
	"errors"
	"fmt"
	"math"
	"math/rand"
	"slices"
	"strings"
	"testing"

	"consistory/api"
	"consistory/raftlog"
)

// classes: all that there are, of which an error has just one.
var classes = []api.Class{
	api.ErrSyntax, api.ErrLimit, api.ErrName, api.ErrType, api.ErrConstraint, api.ErrOverflow, api.ErrZero,
	api.ErrForm, api.ErrSum, api.ErrShort, api.ErrFile, api.ErrFull, api.ErrDown, api.ErrPlace,
	api.ErrNode, api.ErrLead, api.ErrWait, api.ErrBusy, api.ErrLine,
}

// class tells an error's, 0 of none, and that it has no other one.
func class(t *testing.T, err error) api.Class {
	t.Helper()
	if err == nil {
		return 0
	}
	var c api.Class
	if !errors.As(err, &c) {
		t.Fatalf("rule 5: an error without a class: %v", err)
	}
	for _, other := range classes {
		if errors.Is(err, other) != (other == c) {
			t.Fatalf("rule 5: %v: of class %d, and of %d", err, c, other)
		}
	}
	if !strings.Contains(err.Error(), c.Error()) {
		t.Fatalf("rule 5: %q says nothing of %q", err.Error(), c.Error())
	}
	return c
}

// of tells entries of terms, each marked as one of who made it and of its place.
func of(who string, terms ...uint64) []api.Entry {
	var out []api.Entry
	for i, term := range terms {
		out = append(out, api.Entry{Term: term, Kind: api.EnCommand, Client: uint64(i), Seq: uint64(len(terms)), Sql: fmt.Sprint(who, i)})
	}
	return out
}

// sayEntries writes each entry's term and mark: `1 own0, 2 other1`.
func sayEntries(l []api.Entry) string {
	var out []string
	for _, e := range l {
		out = append(out, fmt.Sprint(e.Term, " ", e.Sql))
	}
	return strings.Join(out, ", ")
}

// say writes a log: `5 of 1: 1 own0, 2 own1`.
func say(l *raftlog.Log) string {
	base, term := l.Base()
	return fmt.Sprint(base, " of ", term, ": ", sayEntries(l.Entries(0, math.MaxInt)))
}

// pair: a log, and what it must be.
type pair struct {
	l *raftlog.Log
	x *model
}

func paired(base, term uint64, l []api.Entry) pair {
	return pair{raftlog.New(base, term, l), newModel(base, term, l)}
}

// places tells indexes at which a log is looked at: those at its ends, within, and far from it.
func (p pair) places() []uint64 {
	l := []uint64{0, 1, 2, 1 << 31, 1 << 32, 1<<62 - 1, 1 << 62, 1 << 63, math.MaxUint64 - 1, math.MaxUint64}
	last := p.x.last()
	for i := p.x.base; i <= last; i += 1 + (last-p.x.base)/40 {
		l = append(l, i)
	}
	for i := range uint64(3) {
		l = append(l, p.x.base-1-i, p.x.base+i, last-i, last+1+i)
	}
	slices.Sort(l)
	return slices.Compact(l)
}

// most: so many entries are asked for.
var most = []int{math.MinInt, -3, -1, 0, 1, 2, 3, 8, 100000, math.MaxInt}

// hold tells what the log tells that the model doesn't.
func (p pair) hold(t *testing.T) {
	t.Helper()
	base, term := p.l.Base()
	if base != p.x.base || term != p.x.term {
		t.Fatalf("P19.1: Base: %d, %d, want %d, %d", base, term, p.x.base, p.x.term)
	}
	last, term := p.l.Last()
	if last != p.x.last() || term != p.x.termOf(last) {
		t.Fatalf("P19.1: Last: %d, %d, want %d, %d", last, term, p.x.last(), p.x.termOf(p.x.last()))
	}
	if got, want := p.l.Entries(0, math.MaxInt), p.x.entries(0, math.MaxInt); !slices.Equal(got, want) {
		t.Fatalf("P19.1: all entries: %s, want %s", sayEntries(got), sayEntries(want))
	}
}

// holdAll is hold at all places.
func (p pair) holdAll(t *testing.T) {
	t.Helper()
	p.hold(t)
	for _, i := range p.places() {
		p.term(t, i)
		for _, n := range most {
			if got, want := p.l.Entries(i, n), p.x.entries(i, n); !slices.Equal(got, want) {
				t.Fatalf("P19.1: %s: Entries(%d, %d): %s, want %s", say(p.l), i, n, sayEntries(got), sayEntries(want))
			}
		}
		for _, term := range []uint64{0, 1, 2, 3, math.MaxUint64, p.x.termOf(p.x.last()) - 1, p.x.termOf(p.x.last()), p.x.termOf(p.x.last()) + 1} {
			if got, want := p.l.Newer(i, term), p.x.newer(i, term); got != want {
				t.Fatalf("P19.1: %s: Newer(%d, %d): %v", say(p.l), i, term, got)
			}
		}
	}
}

func (p pair) term(t *testing.T, i uint64) {
	t.Helper()
	term, err := p.l.Term(i)
	want := api.Class(0)
	if !p.x.has(i) {
		want = api.ErrPlace
	}
	if c := class(t, err); c != want || term != p.x.termOf(i) {
		t.Fatalf("P19.1: %s: Term(%d): %d, %v, want %d, class %d", say(p.l), i, term, err, p.x.termOf(i), want)
	}
}

func (p pair) add(t *testing.T, e api.Entry) {
	t.Helper()
	if got, want := p.l.Add(e), p.x.add(e); got != want {
		t.Fatalf("P19.1: Add: %d, want %d", got, want)
	}
	p.hold(t)
}

// merge tells the class, too, and whether the log has changed.
func (p pair) merge(t *testing.T, prev, term uint64, l2 []api.Entry, commit uint64) (api.Class, bool) {
	t.Helper()
	was := say(p.l)
	told, from, err := p.l.Merge(prev, term, l2, commit)
	wantTold, wantFrom, want := p.x.merge(prev, term, l2, commit)
	if c := class(t, err); told != wantTold || from != wantFrom || c != want {
		t.Fatalf("P19.2: %s: Merge(%d, %d, (%s), %d): %d, %d, %v, want %d, %d, class %d", was, prev, term, sayEntries(l2), commit, told, from, err, wantTold, wantFrom, want)
	}
	if got, want := say(p.l), p.x.say(); got != want {
		t.Fatalf("P19.2: %s: Merge(%d, %d, (%s), %d): %s, want %s", was, prev, term, sayEntries(l2), commit, got, want)
	}
	p.hold(t)
	return want, wantFrom != 0
}

func (p pair) compact(t *testing.T, index uint64) api.Class {
	t.Helper()
	was := say(p.l)
	err, want := p.l.Compact(index), p.x.compact(index)
	if c := class(t, err); c != want || say(p.l) != p.x.say() {
		t.Fatalf("P19.3: %s: Compact(%d): %v: %s, want class %d: %s", was, index, err, say(p.l), want, p.x.say())
	}
	p.hold(t)
	return want
}

func (p pair) reset(t *testing.T, index, term uint64) {
	t.Helper()
	was := say(p.l)
	p.l.Reset(index, term)
	p.x.reset(index, term)
	if say(p.l) != p.x.say() {
		t.Fatalf("P19.3: %s: Reset(%d, %d): %s, want %s", was, index, term, say(p.l), p.x.say())
	}
	p.hold(t)
}

// chance tells a number from 0 to n - 1.
type chance func(n int) int

func byChance(seed int64) chance { return rand.New(rand.NewSource(seed)).Intn }

func pick[T any](c chance, l ...T) T { return l[c(len(l))] }
