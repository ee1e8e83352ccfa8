package snap_test

import (
	"fmt"
	"math/rand"
	"slices"
	"testing"

	"consistory/api"
	"consistory/simdisk"
	"consistory/snap"
)

// TestEveryFall: at each changing call of a Save, with each number of bytes that stay, behind which another Save falls, too.
func TestEveryFall(t *testing.T) {
	for _, old := range []api.Snapshot{{}, of(1, 1, "old"), of(2, 1, "as new"), of(3, 1, "newer")} {
		for at := range 12 {
			for keep := range 40 {
				checkFall(t, old, at, keep)
			}
		}
	}
}

// checkFall: an old one with Index 0 is none.
func checkFall(t *testing.T, old api.Snapshot, at, keep int) {
	t.Helper()
	d := simdisk.New(1000)
	if old.Index > 0 {
		done(t, snap.Save(d, old))
	}
	ahead := load(t, d)
	s := of(2, 5, "this is the new one")
	then := ahead
	if old.Index <= s.Index {
		then = write(s, true)
	}
	d.Halt(at)
	err := snap.Save(d, s)
	if err != nil {
		want(t, "P4.2: Save", err, api.ErrDown)
	}
	c := api.Crash{Keep: []int{keep, keep, keep}}
	d.Crash(c)
	told := load(t, d)
	if told != then && (told != ahead || err == nil) {
		t.Fatalf("P4.2: at %d, %d bytes: %s behind %v, not %s or %s", at, keep, told, err, ahead, then)
	}
	wantSure(t, "P4.2: told for good", d, told)
	d.Halt(keep % 5)
	next := of(4, 1, "next")
	err = snap.Save(d, next)
	d.Crash(c)
	if got := load(t, d); got != write(next, true) && (got != told || err == nil) {
		t.Fatalf("P4.2: at %d, %d bytes: %s behind %v, not %s", at, keep, got, err, told)
	}
	want(t, "P4.2: it goes on", snap.Save(d, of(5, 1, "last")), 0)
	wantSure(t, "P4.2: it goes on", d, `5/1 "last"`)
}

// TestFallsTakeNoRoom: what falls leave isn't there for good: room for two is enough still.
func TestFallsTakeNoRoom(t *testing.T) {
	d := simdisk.New(2 * (500 + 64))
	for i := range uint64(60) {
		s := api.Snapshot{Index: i + 1, Data: pattern(500)}
		d.Halt(int(i % 4))
		snap.Save(d, s)
		d.Crash(api.Crash{Keep: []int{int(i * 37 % 600), int(i * 53 % 600), 600}})
		want(t, fmt.Sprint("P4.2: behind fall ", i), snap.Save(d, s), 0)
		wantSure(t, "P4.2", d, write(s, true))
	}
}

// model: what a disk has, and what it may have once the power is back.
type model struct {
	has api.Snapshot
	ok  bool
	may []string
}

func (m *model) told() string { return write(m.has, m.ok) }

// take: s was saved.
func (m *model) take(s api.Snapshot) {
	if !m.ok || s.Index >= m.has.Index {
		m.has, m.ok = s, true
	}
}

// save does one Save on both; it tells whether the power is on still.
func (m *model) save(t *testing.T, d *simdisk.Disk, s api.Snapshot) bool {
	t.Helper()
	c := classOf(t, snap.Save(d, s))
	ahead := m.told()
	switch {
	case len(s.Data) > most:
		if c != api.ErrForm {
			t.Fatalf("P4.1: class %d", c)
		}
	case c == 0:
		m.take(s)
	case c == api.ErrDown:
		m.take(s)
		m.may = []string{ahead, m.told()}
		return false
	case c != api.ErrFull:
		t.Fatalf("P4.1: class %d", c)
	}
	return true
}

// fall lets the power go and come back, and holds what is told then against what may be.
func (m *model) fall(t *testing.T, r *rand.Rand, d *simdisk.Disk) {
	t.Helper()
	d.Crash(api.Crash{Keep: []int{r.Intn(200), r.Intn(200), r.Intn(200)}})
	s, ok, err := snap.Load(d)
	done(t, err)
	if !slices.Contains(m.may, write(s, ok)) {
		t.Fatalf("P4.2: %s, not one of %q", write(s, ok), m.may)
	}
	m.has, m.ok = s, ok
}

// some: a snapshot with an Index near that of others.
func some(r *rand.Rand, near uint64) api.Snapshot {
	if r.Intn(200) == 0 {
		return api.Snapshot{Data: make([]byte, most+1)}
	}
	s := api.Snapshot{Index: near + uint64(r.Intn(5)), Term: r.Uint64() >> r.Intn(64), Data: make([]byte, r.Intn(1<<r.Intn(10)))}
	r.Read(s.Data)
	return s
}

// TestModel: long runs of Saves and falls, on disks of which some are too small.
func TestModel(t *testing.T) {
	for seed := range int64(300) {
		r := rand.New(rand.NewSource(seed))
		d := simdisk.New(r.Intn(1500))
		m := &model{}
		for i := range 120 {
			if r.Intn(4) == 0 {
				d.Halt(r.Intn(6))
			}
			if !m.save(t, d, some(r, uint64(i/8))) {
				m.fall(t, r, d)
			} else if r.Intn(6) == 0 {
				m.may = []string{m.told()}
				m.fall(t, r, d)
			}
			wantLoad(t, fmt.Sprint("P4.1: run ", seed), d, m.told())
			if t.Failed() {
				return
			}
		}
	}
}
