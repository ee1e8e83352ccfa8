package raftlog_test

import (
	"fmt"
	"math"
	"testing"

	"consistory/api"
)

// index makes one: mostly within a log, or close to its ends.
func index(c chance, x *model) uint64 {
	n := len(x.at) + 1
	switch c(12) {
	case 0:
		return x.last() + 1 + uint64(c(3))
	case 1:
		return x.base - uint64(c(4))
	case 2:
		return pick[uint64](c, 0, 1, 1<<31, 1<<32, 1<<62, 1<<63, math.MaxUint64)
	}
	return x.base + uint64(c(n))
}

// step does something by chance with a log, and tells what.
func step(t *testing.T, c chance, p pair) string {
	t.Helper()
	last := p.x.termOf(p.x.last())
	term := func() uint64 {
		return pick(c, last, last, last+1, last-1, uint64(c(4)), math.MaxUint64)
	}
	entries := func(n int) []api.Entry {
		var out []api.Entry
		for range n {
			out = append(out, of(fmt.Sprint("step", c(1000), " "), term())[0])
		}
		return out
	}
	switch n := c(20); {
	case n < 6:
		p.add(t, entries(1)[0])
		return "add"
	case n < 16:
		prev := index(c, p.x)
		of := p.x.termOf(prev)
		if c(5) == 0 {
			of = term()
		}
		l2 := p.x.entries(prev+1, c(6)) // much that is there already
		for i := range l2 {
			l2[i].Sql = "again"
		}
		l2 = append(l2, entries(pick(c, 0, 0, 1, 2, 8))...)
		if prev < p.x.base && c(3) > 0 {
			l2 = append(entries(int(min(p.x.base-prev, 9))), p.x.entries(0, c(6))...)
		}
		class, changed := p.merge(t, prev, of, l2, pick(c, 0, index(c, p.x)))
		return fmt.Sprint("merge ", int(class), " ", changed)
	case n == 16:
		return fmt.Sprint("compact ", int(p.compact(t, index(c, p.x))))
	case n == 17:
		i := index(c, p.x) % (1<<62 - 1<<20)
		of := pick(c, p.x.termOf(i), p.x.termOf(i), term())
		stays := p.x.has(i) && p.x.termOf(i) == of
		p.reset(t, i, of)
		return fmt.Sprint("reset ", stays)
	case n == 18:
		p.term(t, index(c, p.x))
	}
	p.holdAll(t)
	return "ask"
}

// TestByChance: P19.1 to P19.3, one call behind the other.
func TestByChance(t *testing.T) {
	t.Parallel()
	tried := map[string]int{}
	for seed := range int64(300) {
		c := byChance(seed)
		p := paired(pick[uint64](c, 0, 1, 5, 1<<40), uint64(c(4)), of("own", make([]uint64, c(10))...))
		for range 100 {
			tried[step(t, c, p)]++
		}
	}
	for _, kind := range []string{"add", "merge 0 true", "merge 0 false", "merge 52 false", "compact 0", "compact 40", "reset true", "reset false", "ask"} {
		if tried[kind] < 100 {
			t.Errorf("too little is tried: %s: %d", kind, tried[kind])
		}
	}
	if t.Failed() || testing.Verbose() {
		t.Log(tried)
	}
}

// FuzzLog: what bytes say is done with a log.
func FuzzLog(f *testing.F) {
	for seed := range int64(8) {
		c := byChance(seed)
		b := make([]byte, 40*seed)
		for i := range b {
			b[i] = byte(c(256))
		}
		f.Add(uint64(seed), uint64(1), b)
	}
	f.Fuzz(func(t *testing.T, base, term uint64, b []byte) {
		c := func(n int) int {
			if len(b) == 0 {
				return 0
			}
			k := int(b[0])
			b = b[1:]
			if n > 256 && len(b) > 0 {
				k += 256 * int(b[0])
			}
			return k % n
		}
		p := paired(base%(1<<61), term, nil)
		for len(b) > 0 {
			step(t, c, p)
		}
		p.holdAll(t)
	})
}
