package raftlog_test

import (
	"math"
	"testing"

	"consistory/api"
	"consistory/raftlog"
)

// TestMerges: P19.2: what is left out at the base, what is refused, what stays, what is cut.
func TestMerges(t *testing.T) {
	for _, c := range []struct {
		base, term uint64
		own        []uint64
		prev, of   uint64
		other      []uint64
		commit     uint64
		told, from uint64
		class      api.Class
		want       string
	}{
		// behind the last one
		{5, 2, []uint64{3}, 6, 3, []uint64{3, 4}, 0, 8, 7, 0, "3 own0, 3 other0, 4 other1"},
		{5, 2, nil, 5, 2, []uint64{1}, 0, 6, 6, 0, "1 other0"},
		// refused
		{5, 2, []uint64{3}, 7, 3, []uint64{3}, 0, 6, 0, api.ErrWait, "3 own0"},
		{5, 2, []uint64{3}, math.MaxUint64, 3, []uint64{3}, 0, 6, 0, api.ErrWait, "3 own0"},
		{5, 2, nil, 6, 2, []uint64{3}, 9, 5, 0, api.ErrWait, ""},
		{5, 2, []uint64{3, 3}, 7, 2, []uint64{4}, 0, 6, 0, api.ErrWait, "3 own0, 3 own1"},
		{5, 2, []uint64{3, 3}, 6, 2, []uint64{4}, 0, 5, 0, api.ErrWait, "3 own0, 3 own1"},
		{5, 2, []uint64{3, 3}, 6, 2, []uint64{4}, 7, 5, 0, api.ErrWait, "3 own0, 3 own1"},
		{5, 2, []uint64{3, 3}, 5, 3, []uint64{4}, 0, 5, 0, api.ErrWait, "3 own0, 3 own1"},
		{0, 0, []uint64{3, 3}, 0, 1, []uint64{4}, 0, 0, 0, api.ErrWait, "3 own0, 3 own1"},
		{0, 0, []uint64{3, 3}, 1, 1, []uint64{4}, 0, 0, 0, api.ErrWait, "3 own0, 3 own1"},
		{0, 0, nil, 1, 0, nil, 0, 0, 0, api.ErrWait, ""},
		// at or below the base
		{5, 2, []uint64{3}, 4, 9, []uint64{8, 3, 4}, 0, 7, 7, 0, "3 own0, 4 other2"},
		{5, 2, []uint64{3}, 4, 9, []uint64{8, 4}, 0, 6, 6, 0, "4 other1"},
		{5, 2, []uint64{3}, 4, 9, []uint64{8}, 0, 5, 0, 0, "3 own0"},
		{5, 2, []uint64{3}, 4, 9, nil, 0, 5, 0, 0, "3 own0"},
		{5, 2, []uint64{3}, 0, 9, []uint64{8, 8, 8, 8}, 0, 5, 0, 0, "3 own0"},
		{5, 2, []uint64{3}, 0, 9, []uint64{8, 8, 8, 8, 8, 8}, 0, 6, 6, 0, "8 other5"},
		{5, 2, nil, 0, 9, []uint64{8, 8, 8, 8, 8, 8}, 0, 6, 6, 0, "8 other5"},
		{1<<62 - 9, 2, nil, 0, 9, []uint64{8}, 0, 1<<62 - 9, 0, 0, ""},
		// what is there stays as it is
		{5, 2, []uint64{3, 3, 4}, 5, 2, []uint64{3, 3}, 0, 7, 0, 0, "3 own0, 3 own1, 4 own2"},
		{5, 2, []uint64{3, 3, 4}, 6, 3, []uint64{3, 4}, 0, 8, 0, 0, "3 own0, 3 own1, 4 own2"},
		{5, 2, []uint64{3, 3, 4}, 5, 2, []uint64{3, 3, 4, 4}, 0, 9, 9, 0, "3 own0, 3 own1, 4 own2, 4 other3"},
		// what is another one is cut, with all behind it, alike or not
		{5, 2, []uint64{3, 3, 4}, 5, 2, []uint64{1}, 0, 6, 6, 0, "1 other0"},
		{5, 2, []uint64{3, 3, 4}, 5, 2, []uint64{3, 4, 4}, 0, 8, 7, 0, "3 own0, 4 other1, 4 other2"},
		{5, 2, []uint64{3, 3, 4}, 6, 3, []uint64{5}, 0, 7, 7, 0, "3 own0, 5 other0"},
		{5, 2, []uint64{3, 3, 4}, 7, 3, []uint64{3}, 0, 8, 8, 0, "3 own0, 3 own1, 3 other0"},
		// what is committed isn't
		{5, 2, []uint64{3, 3, 4}, 5, 2, []uint64{1}, 6, 6, 0, 0, "3 own0, 3 own1, 4 own2"},
		{5, 2, []uint64{3, 3, 4}, 5, 2, []uint64{1, 3, 4}, 6, 8, 0, 0, "3 own0, 3 own1, 4 own2"},
		{5, 2, []uint64{3, 3, 4}, 5, 2, []uint64{1, 1, 4}, 6, 8, 7, 0, "3 own0, 1 other1, 4 other2"},
		{5, 2, []uint64{3, 3, 4}, 5, 2, []uint64{1, 1, 1}, 7, 8, 8, 0, "3 own0, 3 own1, 1 other2"},
		{5, 2, []uint64{3, 3, 4}, 5, 2, []uint64{1, 1, 1, 1}, 8, 9, 9, 0, "3 own0, 3 own1, 4 own2, 1 other3"},
		{5, 2, []uint64{3, 3, 4}, 5, 2, []uint64{1, 1, 1, 1}, 99, 9, 9, 0, "3 own0, 3 own1, 4 own2, 1 other3"},
		{5, 2, []uint64{3, 3, 4}, 5, 2, []uint64{1, 1, 1}, math.MaxUint64, 8, 0, 0, "3 own0, 3 own1, 4 own2"},
		{5, 2, []uint64{3, 3, 4}, 5, 2, []uint64{1, 1, 1}, 5, 8, 6, 0, "1 other0, 1 other1, 1 other2"},
		{5, 2, []uint64{3, 3, 4}, 4, 2, []uint64{7, 1, 1, 1}, 6, 8, 7, 0, "3 own0, 1 other2, 1 other3"},
	} {
		p := paired(c.base, c.term, of("own", c.own...))
		told, from, err := raftlog.New(c.base, c.term, of("own", c.own...)).Merge(c.prev, c.of, of("other", c.other...), c.commit)
		p.merge(t, c.prev, c.of, of("other", c.other...), c.commit)
		if got := sayEntries(p.l.Entries(0, 99)); got != c.want || told != c.told || from != c.from || class(t, err) != c.class {
			t.Errorf("P19.2: %d of %d: %v: Merge(%d, %d, %v, %d): %d, %d, %v: %s, want %d, %d, class %d: %s", c.base, c.term, c.own, c.prev, c.of, c.other, c.commit, told, from, err, got, c.told, c.from, c.class, c.want)
		}
	}
}

// rows tells all lists of at most n of the terms 1 and 2.
func rows(n int) [][]uint64 {
	out := [][]uint64{nil}
	for i := 0; i < len(out); i++ {
		if len(out[i]) < n {
			for term := uint64(1); term <= 2; term++ {
				out = append(out, append(append([]uint64(nil), out[i]...), term))
			}
		}
	}
	return out
}

// TestAllSmallMerges: P19.2: logs of at most three entries behind bases 0 to 2, and all that may come to them.
func TestAllSmallMerges(t *testing.T) {
	t.Parallel()
	tried := map[api.Class]int{}
	changed := map[bool]int{}
	for base := range uint64(3) {
		for _, own := range rows(3) {
			for _, other := range rows(4) {
				for prev := range uint64(7) {
					for term := range uint64(3) {
						for commit := range uint64(8) {
							p := paired(base, 1, of("own", own...))
							class, ok := p.merge(t, prev, term, of("other", other...), commit)
							tried[class]++
							changed[ok]++
						}
					}
				}
			}
		}
	}
	if tried[0] < 10000 || tried[api.ErrWait] < 10000 || changed[true] < 10000 || changed[false] < 10000 {
		t.Errorf("too little is tried: %v, %v", tried, changed)
	}
}

// TestMergeAgain: P19.2: what has come once changes nothing when it comes again.
func TestMergeAgain(t *testing.T) {
	for _, own := range rows(4) {
		for _, other := range rows(4) {
			for prev := range uint64(3) {
				p := paired(1, 2, of("own", own...))
				term := p.x.termOf(max(prev, 1))
				if class, _ := p.merge(t, prev, term, of("other", other...), 0); class != 0 {
					continue
				}
				was := say(p.l)
				for commit := range uint64(7) {
					if class, changed := p.merge(t, prev, term, of("again", other...), commit); class != 0 || changed || say(p.l) != was {
						t.Errorf("P19.2: then class %d: %s, want %s", class, say(p.l), was)
					}
				}
			}
		}
	}
}
