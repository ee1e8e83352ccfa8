package wal_test

import (
	"fmt"
	"math/rand"
	"slices"
	"strings"
	"testing"

	"consistory/api"
	"consistory/simdisk"
	"consistory/wal"
)

// model: a wal as the chapter tells it, with nothing in common with the one that is tested: what it tells, and all that may be told behind a fall.
type model struct {
	hard       api.Hard
	base, term uint64
	entries    []api.Entry
	may        []string
}

func newModel() *model {
	m := &model{hard: api.Hard{Vote: -1}}
	m.may = []string{m.show()}
	return m
}

func (m *model) show() string { return write(m.hard, m.base, m.term, m.entries) }

// done: a call, or the entry of one, was done: behind a fall that may be told, or anything that might be ahead of it.
func (m *model) done() api.Class {
	m.may = append(m.may, m.show())
	return 0
}

// sure: only what is told now may be.
func (m *model) sure() api.Class {
	m.may = []string{m.show()}
	return 0
}

func (m *model) setHard(h api.Hard) api.Class {
	if h.Vote < -1 || h.Vote > 1000 {
		return api.ErrForm
	}
	m.hard = h
	return m.done()
}

func (m *model) append(l []api.Entry) api.Class {
	for _, e := range l {
		if e.Kind != api.EnCommand && e != (api.Entry{Term: e.Term}) || len(e.Sql) > 2000 {
			return api.ErrForm
		}
	}
	for _, e := range l {
		m.entries = append(m.entries, e)
		m.done()
	}
	return 0
}

func (m *model) cut(from uint64) api.Class {
	for i := range len(m.entries) + 1 {
		if from == m.base+1+uint64(i) {
			m.entries = m.entries[:i]
			return m.done()
		}
	}
	return api.ErrPlace
}

func (m *model) drop(index, term uint64) api.Class {
	if index < m.base || index > 1<<62 {
		return api.ErrPlace
	}
	for m.base < index && len(m.entries) > 0 {
		m.base, m.entries = m.base+1, m.entries[1:]
	}
	m.base, m.term = index, term
	return m.done()
}

// become: a fall left what is told.
func (m *model) become(w *wal.Wal) {
	m.hard, m.entries = w.Hard(), w.Entries()
	m.base, m.term = w.Base()
	m.sure()
}

// bytes: those of P3.4.
func (m *model) bytes() int {
	n := 0
	for _, e := range m.entries {
		n += len(e.Sql) + 40
	}
	return n
}

// pair: a wal and its model.
type pair struct {
	w *wal.Wal
	m *model
}

// step does one call on both, some of them wrong ones; it tells the call, the error, and what the model answers. A call that the disk refuses is among those that may be told, as one that is pending.
func (p pair) step(r *rand.Rand, most int) (string, error, api.Class) {
	w, m := p.w, p.m
	end := m.base + uint64(len(m.entries))
	switch r.Intn(9) {
	case 0, 1:
		h := api.Hard{Term: uint64(r.Intn(1000)), Vote: r.Intn(1005) - 3}
		return fmt.Sprint("SetHard ", h), w.SetHard(h), m.setHard(h)
	case 2, 3, 4:
		l := someEntries(r, most-m.bytes())
		return fmt.Sprint("Append of ", len(l)), w.Append(l), m.append(l)
	case 5:
		from := m.base + uint64(r.Intn(len(m.entries)+3))
		return fmt.Sprint("Cut ", from), w.Cut(from), m.cut(from)
	case 6:
		index, term := m.base+uint64(r.Intn(len(m.entries)+3))-1, uint64(r.Intn(300))
		return fmt.Sprint("Drop ", index), w.Drop(index, term), m.drop(index, term)
	case 7:
		if len(m.entries) > 0 && r.Intn(3) == 0 {
			return fmt.Sprint("Cut ", end), w.Cut(end), m.cut(end)
		}
		return "Drop too high", w.Drop(1<<62+1, 1), m.drop(1<<62+1, 1)
	}
	err := w.Sync()
	if err == nil {
		return "Sync", err, m.sure()
	}
	return "Sync", err, 0
}

// someEntries: at most left bytes of them by P3.4; sometimes one that may not be.
func someEntries(r *rand.Rand, left int) []api.Entry {
	var l []api.Entry
	for range r.Intn(5) {
		sql := strings.Repeat(string(rune('a'+r.Intn(26))), r.Intn(100)*r.Intn(21))
		if left -= len(sql) + 40; left < 0 {
			break
		}
		e := api.Entry{Term: r.Uint64() >> r.Intn(64), Kind: api.EnCommand, Client: r.Uint64() >> r.Intn(64), Seq: r.Uint64() >> r.Intn(64), Sql: sql}
		switch r.Intn(20) {
		case 0, 1, 2:
			e = api.Entry{Term: e.Term}
		case 3:
			e = api.Entry{Term: 1, Client: 1}
		}
		l = append(l, e)
	}
	return l
}

// fall lets the power go and come back, and tells the wal that is there then: one that may be told.
func fall(t *testing.T, r *rand.Rand, d *simdisk.Disk, m *model, told []string) *wal.Wal {
	t.Helper()
	for {
		d.Crash(api.Crash{Keep: []int{r.Intn(1 << r.Intn(14)), r.Intn(1 << r.Intn(14))}})
		if r.Intn(2) == 0 {
			d.Halt(r.Intn(3)) // the power may go while it is opened, too
		}
		w, err := wal.Open(d)
		if err == nil {
			d.Halt(-1)
			if !slices.Contains(m.may, show(w)) {
				t.Fatalf("P3.3: behind %q: %q, not one of %q", told, show(w), m.may)
			}
			m.become(w)
			return w
		}
		want(t, "P3.3: Open", err, api.ErrDown)
	}
}

// TestModel: whatever is called, in whatever order, and wherever the power goes (P3.1 to P3.5).
func TestModel(t *testing.T) {
	rewritten := 0
	for seed := range 150 {
		r := rand.New(rand.NewSource(int64(seed)))
		d := simdisk.New(room)
		p := pair{open(t, d), newModel()}
		var told []string
		for range 400 {
			if r.Intn(60) == 0 {
				d.Halt(r.Intn(12))
			}
			used := d.Used()
			before := p.m.show()
			call, err, class := p.step(r, 16384)
			told = append(told, call)
			if class == 0 && err != nil {
				want(t, fmt.Sprint("P3.3, P3.4: ", told), err, api.ErrDown)
				wantShow(t, "rule 4", p.w, before)
				p.w, told = fall(t, r, d, p.m, told), nil
				continue
			}
			want(t, call, err, class)
			wantShow(t, "P3.2: "+call, p.w, p.m.show())
			wantPower(t, d)
			if d.Used() < used {
				rewritten++
			}
			if r.Intn(100) == 0 {
				p.w, told = fall(t, r, d, p.m, told), nil
			}
		}
	}
	if rewritten < 100 {
		t.Errorf("the file was written anew %d times only: this test has lost its sense", rewritten)
	}
}

// call: one of a script, and whether it is sure behind it.
type call struct {
	on   func(w *wal.Wal) error
	then []string // what may be told at its steps
	sync bool
}

// script: calls, one behind another, of each of which a fall may come.
func script() []call {
	set := func(term uint64, vote int, then ...string) call {
		return call{on: func(w *wal.Wal) error { return w.SetHard(api.Hard{Term: term, Vote: vote}) }, then: then}
	}
	add := func(letters string, then ...string) call {
		return call{on: func(w *wal.Wal) error { return w.Append(commands(letters)) }, then: then}
	}
	cut := func(from uint64, then ...string) call {
		return call{on: func(w *wal.Wal) error { return w.Cut(from) }, then: then}
	}
	drop := func(index, term uint64, then ...string) call {
		return call{on: func(w *wal.Wal) error { return w.Drop(index, term) }, then: then}
	}
	sync := call{on: func(w *wal.Wal) error { return w.Sync() }, sync: true}
	return []call{
		set(1, 0, "1/0 base 0/0:"),
		add("ab", "1/0 base 0/0: a@1", "1/0 base 0/0: a@1 b@1"), sync,
		cut(2, "1/0 base 0/0: a@1"),
		add("cd", "1/0 base 0/0: a@1 c@1", "1/0 base 0/0: a@1 c@1 d@1"),
		set(2, 3, "2/3 base 0/0: a@1 c@1 d@1"),
		drop(2, 7, "2/3 base 2/7: d@1"), sync,
		set(3, -1, "3/-1 base 2/7: d@1"),
		drop(9, 8, "3/-1 base 9/8:"),
		add("e", "3/-1 base 9/8: e@1"), cut(10, "3/-1 base 9/8:"), sync, sync,
	}
}

// runScript runs the script on d until a call errs, and tells what may be told then, and whether one erred.
func runScript(t *testing.T, d *simdisk.Disk) ([]string, bool) {
	t.Helper()
	may := []string{empty}
	w := open(t, d)
	for _, c := range script() {
		if err := c.on(w); err != nil {
			want(t, "P3.3", err, api.ErrDown)
			return append(may, c.then...), true
		}
		may = append(may, c.then...)
		if c.sync {
			may = may[len(may)-1:]
		}
		wantShow(t, "P3.2", w, may[len(may)-1])
	}
	return may, false
}

// TestEveryFall: the power goes at each changing call of a script, and each number of bytes is kept.
func TestEveryFall(t *testing.T) {
	seen := map[string]bool{}
	for n := 0; ; n++ {
		erred := false
		for keep := range 150 {
			d := simdisk.New(room)
			d.Halt(n)
			var may []string
			may, erred = runScript(t, d)
			d.Crash(api.Crash{Keep: []int{keep}})
			got := show(open(t, d))
			seen[got] = true
			if !slices.Contains(may, got) {
				t.Fatalf("P3.3: Halt(%d), %d kept: %q, not one of %q", n, keep, got, may)
			}
			wantSure(t, "P3.1", d, got)
		}
		if !erred {
			break
		}
	}
	if len(seen) < 8 {
		t.Errorf("few falls were told: %v", seen)
	}
}

// TestEveryFallOfANewFile: the same, where the file is written anew.
func TestEveryFallOfANewFile(t *testing.T) {
	left := 0 // new files that weren't the log's yet
	for n := range 12 {
		for _, keep := range [][]int{{}, {0, 5}, {9, 0}, {30, 1 << 20}, {1 << 20}, {1 << 20, 40}, {1 << 20, 1 << 20}} {
			d := simdisk.New(room)
			w := open(t, d)
			done(t, w.SetHard(api.Hard{Term: 4, Vote: 2}), w.Drop(3, 3), w.Append(commands("ab")), w.Sync())
			for d.Used() < 32000 {
				done(t, w.Append(one(9, strings.Repeat("q", 400))), w.Cut(6))
			}
			done(t, w.Sync())
			may := []string{show(w)}
			d.Halt(n)
			for i := 0; ; i++ {
				err := w.Append(one(uint64(i), strings.Repeat("r", 400)))
				if err != nil {
					want(t, "P3.3", err, api.ErrDown)
					break
				}
				wantPower(t, d)
				may = append(may, show(w))
			}
			d.Crash(api.Crash{Keep: keep})
			left += len(d.List()) - 1
			got := show(open(t, d))
			if !slices.Contains(may, got) {
				t.Fatalf("P3.3: Halt(%d), %v kept: %q, not one of %q", n, keep, got, may)
			}
			if len(d.List()) != 1 {
				t.Errorf("P3.3: %q stay", d.List())
			}
			wantSure(t, "P3.1", d, got)
		}
	}
	if left != 2*7 {
		t.Errorf("%d new files were left, want one at each of two calls: this test has lost its sense", left)
	}
}

// TestCallsTellThePower: behind an error, and while the power is off.
func TestCallsTellThePower(t *testing.T) {
	for name, on := range map[string]func(w *wal.Wal) error{
		"SetHard":           func(w *wal.Wal) error { return w.SetHard(api.Hard{Term: 8}) },
		"Append":            func(w *wal.Wal) error { return w.Append(commands("z")) },
		"Append of nothing": func(w *wal.Wal) error { return w.Append(nil) },
		"Cut":               func(w *wal.Wal) error { return w.Cut(7) },
		"Cut of nothing":    func(w *wal.Wal) error { return w.Cut(9) },
		"Drop":              func(w *wal.Wal) error { return w.Drop(7, 1) },
		"Drop of nothing":   func(w *wal.Wal) error { return w.Drop(5, 2) },
		"Sync":              func(w *wal.Wal) error { return w.Sync() },
	} {
		d, w := three(t)
		d.Halt(0)
		want(t, "P3.3: "+name, on(w), api.ErrDown)
		want(t, "P3.3: "+name+" again", on(w), api.ErrDown)
		wantSure(t, "P3.3: "+name, d, "0/-1 base 5/2: a@1 b@1 c@1")
	}
	d := simdisk.New(room)
	w := open(t, d)
	d.Halt(0)
	d.Append("x", nil)
	want(t, "P3.3: Sync without a file", w.Sync(), api.ErrDown)
}

// TestPromisesStay: a node that votes and appends, and falls again and again, tells behind each fall what it had synced (P3.5).
func TestPromisesStay(t *testing.T) {
	for seed := range 40 {
		r := rand.New(rand.NewSource(int64(seed)))
		d := simdisk.New(room)
		w := open(t, d)
		hard, sure := api.Hard{Vote: -1}, 0
		for term := 1; term < 200; term++ {
			h := api.Hard{Term: uint64(term), Vote: r.Intn(7)}
			d.Halt(r.Intn(30))
			n := len(w.Entries())
			if w.SetHard(h) == nil && w.Append(one(h.Term, "x")) == nil && w.Sync() == nil {
				hard, sure = h, n+1
				if r.Intn(2) == 0 {
					continue
				}
			}
			d.Crash(api.Crash{Keep: []int{r.Intn(60), r.Intn(60)}})
			w = open(t, d)
			if w.Hard() != hard && w.Hard() != h || len(w.Entries()) < sure {
				t.Fatalf("P3.5: %v and %d entries were promised, %s", hard, sure, show(w))
			}
			hard, sure = w.Hard(), len(w.Entries())
		}
	}
}
