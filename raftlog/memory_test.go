package raftlog_test

import (
	"runtime"
	"slices"
	"strings"
	"testing"
	"time"
	"unsafe"

	"consistory/api"
	"consistory/raftlog"
)

// roomy tells l with entries in the room behind it.
func roomy(l []api.Entry) []api.Entry {
	return append(slices.Clone(l), of("behind", 7, 7, 7)...)[:len(l)]
}

// whole tells a list with the room behind it.
func whole(l []api.Entry) []api.Entry { return slices.Clone(l[:cap(l)]) }

// TestArgumentsStay: rule 3: lists that are handed in aren't changed, nor is the room behind them, whatever becomes of the log; and what becomes of them isn't seen in it.
func TestArgumentsStay(t *testing.T) {
	own, other := roomy(of("own", 1, 1, 2)), roomy(of("other", 1, 3, 3))
	wasOwn, wasOther := whole(own), whole(other)
	p := paired(5, 1, own)
	twin := paired(5, 1, own)
	p.add(t, of("more", 2)[0])
	p.merge(t, 6, 1, other, 0)
	p.merge(t, 3, 0, other, 0)
	twin.merge(t, 8, 2, other, 0)
	p.add(t, of("more", 4)[0])
	p.compact(t, 6)
	p.merge(t, 7, 3, other[:1], 0)
	p.reset(t, 7, 3)
	p.add(t, of("more", 4)[0])
	if !slices.Equal(whole(own), wasOwn) || !slices.Equal(whole(other), wasOther) {
		t.Errorf("rule 3: %s; %s", sayEntries(whole(own)), sayEntries(whole(other)))
	}
	clear(own[:cap(own)])
	clear(other[:cap(other)])
	p.holdAll(t)
	twin.holdAll(t)
}

// TestRoomCountsForNothing: rule 6: what stands behind a list isn't seen.
func TestRoomCountsForNothing(t *testing.T) {
	for n := range 4 {
		one, other := raftlog.New(5, 1, of("own", 1, 1, 2)[:n]), raftlog.New(5, 1, slices.Clip(of("own", 1, 1, 2)[:n]))
		for k := range 4 {
			one.Merge(5, 1, of("other", 1, 2, 3)[:k], 0)
			other.Merge(5, 1, slices.Clip(of("other", 1, 2, 3)[:k]), 0)
			if say(one) != say(other) {
				t.Errorf("rule 6: %s, and %s", say(one), say(other))
			}
		}
	}
}

// TestAnswersAreNewMemory: rule 3: what is done with an answer is seen neither in the log nor in another answer, and the other way round.
func TestAnswersAreNewMemory(t *testing.T) {
	p := paired(5, 1, of("own", 1, 1, 2))
	for range 6 {
		p.add(t, of("more", 3)[0]) // there is room behind, at some time
		for _, from := range []uint64{0, 6, 8, p.x.last(), p.x.last() + 1} {
			for _, n := range []int{0, 1, 2, 99} {
				one, other := p.l.Entries(from, n), p.l.Entries(from, n)
				was := slices.Clone(other)
				clear(one[:cap(one)])
				p.holdAll(t)
				if !slices.Equal(other, was) {
					t.Fatalf("rule 3: %s, want %s", sayEntries(other), sayEntries(was))
				}
				_ = append(other, of("mine", 9, 9)...)
				p.holdAll(t)
			}
		}
	}
	l := p.l.Entries(0, 99)
	was := slices.Clone(l)
	p.merge(t, 6, 1, of("other", 5, 5, 5, 5), 0)
	p.add(t, of("more", 6)[0])
	p.compact(t, 8)
	p.merge(t, 8, 5, of("other", 7), 0)
	p.reset(t, 2, 2)
	if !slices.Equal(l, was) {
		t.Errorf("rule 3: an answer has changed with the log: %s, want %s", sayEntries(l), sayEntries(was))
	}
}

// TestLogsDontHangTogether: rule 6: logs that were made of one another's entries go on by themselves.
func TestLogsDontHangTogether(t *testing.T) {
	p := paired(5, 1, of("own", 1, 1, 2))
	base, term := p.l.Base()
	q := paired(base, term, p.l.Entries(0, 99))
	r := paired(base, term, nil)
	r.merge(t, 5, 1, p.l.Entries(6, 99), 0)
	p.add(t, of("p", 3)[0])
	q.add(t, of("q", 4)[0])
	r.merge(t, 6, 1, of("r", 5, 5), 0)
	q.merge(t, 5, 1, of("q", 9), 0)
	for _, x := range []pair{p, q, r} {
		x.holdAll(t)
	}
}

// lies: whether a text is within another one.
func lies(s, in string) bool {
	start, here := uintptr(unsafe.Pointer(unsafe.StringData(in))), uintptr(unsafe.Pointer(unsafe.StringData(s)))
	return here >= start && here < start+uintptr(len(in))
}

// TestTextsAreNotKept: rule 3: a statement may be a piece of a great text, of which nothing stays.
func TestTextsAreNotKept(t *testing.T) {
	great := strings.Repeat("great", 1000)
	e := api.Entry{Term: 1, Sql: great[10:30]}
	added, merged := raftlog.New(0, 0, nil), raftlog.New(0, 0, nil)
	added.Add(e)
	merged.Merge(0, 0, []api.Entry{e}, 0)
	for how, l := range map[string]*raftlog.Log{"New": raftlog.New(0, 0, []api.Entry{e}), "Add": added, "Merge": merged} {
		got := l.Entries(0, 1)[0].Sql
		if lies(got, great) || got != e.Sql {
			t.Errorf("rule 3: %s: the text is the argument's", how)
		}
		if lies(l.Entries(0, 1)[0].Sql, got) {
			t.Errorf("rule 3: %s: the text is that of another answer", how)
		}
	}
}

// used tells how many bytes there are.
func used() uint64 {
	var m runtime.MemStats
	runtime.GC()
	runtime.ReadMemStats(&m)
	return m.HeapAlloc
}

// TestWhatIsGoneIsNotKept: P19.2, P19.3: entries that are gone take no memory any more.
func TestWhatIsGoneIsNotKept(t *testing.T) {
	text := strings.Repeat("x", 1<<16)
	for how, gone := range map[string]func(l *raftlog.Log){
		"Compact": func(l *raftlog.Log) { l.Compact(1000) },
		"some":    func(l *raftlog.Log) { l.Compact(990) },
		"Reset":   func(l *raftlog.Log) { l.Reset(2000, 1) },
		"stay":    func(l *raftlog.Log) { l.Reset(990, 1) },
		"Merge":   func(l *raftlog.Log) { l.Merge(10, 1, []api.Entry{{Term: 2}}, 0) },
	} {
		l := raftlog.New(0, 0, nil)
		for range 1000 {
			l.Add(api.Entry{Term: 1, Sql: text})
		}
		full := used()
		gone(l)
		if now := used(); full < now || full-now < 900<<16 {
			t.Errorf("%s: %d bytes, then %d", how, full, now)
		}
		runtime.KeepAlive(l)
	}
}

// TestMuch: rule 1: very many entries, one by one and at once; it ends soon.
func TestMuch(t *testing.T) {
	const n = 1 << 18
	start := time.Now()
	l, twin := raftlog.New(9, 1, nil), raftlog.New(9, 1, nil)
	for i := range uint64(n) {
		if got := l.Add(api.Entry{Term: 2 + i/1000, Client: i}); got != 10+i {
			t.Fatalf("P19.1: Add: %d", got)
		}
	}
	all := l.Entries(0, n)
	for i := 0; i < n; i += 8 {
		prev := 9 + uint64(i)
		term, _ := l.Term(prev)
		if told, from, err := twin.Merge(prev, term, l.Entries(prev+1, 8), prev); told != prev+8 || from != prev+1 || err != nil {
			t.Fatalf("P19.2: %d, %d, %v", told, from, err)
		}
	}
	if told, from, err := twin.Merge(9, 1, all, 9+n/2); told != 9+n || from != 0 || err != nil {
		t.Errorf("P19.2: %d, %d, %v", told, from, err)
	}
	if !slices.Equal(twin.Entries(0, n), all) {
		t.Error("P19.2: the logs aren't alike")
	}
	for i := uint64(n - 100); i < n; i++ {
		if twin.Compact(i) != nil {
			t.Errorf("P19.3: Compact(%d)", i)
		}
	}
	if took := time.Since(start); took > 20*time.Second {
		t.Errorf("P19.1: %s", took)
	}
}
