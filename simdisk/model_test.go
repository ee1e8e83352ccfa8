package simdisk_test

import (
	"fmt"
	"math/rand"
	"sort"
	"strings"
	"testing"

	"consistory/api"
	"consistory/simdisk"
)

// part: a file of the model: what is sure of it, and what is behind that.
type part struct{ sure, rest string }

// model: a disk as the chapter tells it, with nothing in common with the one that is tested.
type model struct {
	room  int
	parts map[string]part
	down  bool
	left  int // -1: no Halt
	count int
}

func (m *model) names() []string {
	var l []string
	for name := range m.parts {
		l = append(l, name)
	}
	sort.Strings(l)
	return l
}

func (m *model) used() int {
	n := 0
	for _, p := range m.parts {
		n += len(p.sure + p.rest)
	}
	return n
}

// change does a call that is refused for reason (0: none).
func (m *model) change(reason api.Class, do func()) api.Class {
	switch {
	case m.down:
		return api.ErrDown
	case reason != 0:
		return reason
	case m.left == 0:
		m.down = true
		return api.ErrDown
	}
	if m.left > 0 {
		m.left--
	}
	m.count++
	do()
	return 0
}

// unless tells the reason, if it holds.
func unless(ok bool, reason api.Class) api.Class {
	if ok {
		return 0
	}
	return reason
}

func mayBe(name string) bool {
	return name != "" && len(name) <= 40 && strings.Trim(name, "abcdefghijklmnopqrstuvwxyz0123456789.-_") == ""
}

func (m *model) append(name, b string) api.Class {
	p, there := m.parts[name]
	reason := unless(mayBe(name), api.ErrForm)
	if reason == 0 && (m.used()+len(b) > m.room || !there && len(m.parts) == 64) {
		reason = api.ErrFull
	}
	return m.change(reason, func() { m.parts[name] = part{p.sure, p.rest + b} })
}

func (m *model) sync(name string) api.Class {
	p, there := m.parts[name]
	return m.change(unless(there, api.ErrFile), func() { m.parts[name] = part{p.sure + p.rest, ""} })
}

func (m *model) truncate(name string, n int) api.Class {
	p, there := m.parts[name]
	all := p.sure + p.rest
	reason := unless(there, api.ErrFile)
	if reason == 0 {
		reason = unless(0 <= n && n <= len(all), api.ErrPlace)
	}
	return m.change(reason, func() {
		sure := min(n, len(p.sure))
		m.parts[name] = part{all[:sure], all[sure:n]}
	})
}

func (m *model) rename(from, to string) api.Class {
	p, there := m.parts[from]
	reason := unless(mayBe(to), api.ErrForm)
	if reason == 0 {
		reason = unless(there, api.ErrFile)
	}
	return m.change(reason, func() {
		delete(m.parts, from)
		m.parts[to] = p
	})
}

func (m *model) remove(name string) api.Class {
	_, there := m.parts[name]
	return m.change(unless(there, api.ErrFile), func() { delete(m.parts, name) })
}

func (m *model) crash(keep []int) {
	for i, name := range m.names() {
		p, k := m.parts[name], 0
		if i < len(keep) && keep[i] > 0 {
			k = min(keep[i], len(p.rest))
		}
		m.parts[name] = part{p.sure + p.rest[:k], ""}
	}
	m.down, m.left = false, -1
}

func (m *model) read(name string) (string, api.Class) {
	p, there := m.parts[name]
	if m.down {
		return "", api.ErrDown
	}
	return p.sure + p.rest, unless(there, api.ErrFile)
}

// step does one call on both, and tells it.
func step(t *testing.T, r *rand.Rand, d *simdisk.Disk, m *model) string {
	names := []string{"a", "b", "b0", "c", ".", "-", "zz", "A", ""}
	name, other := names[r.Intn(len(names))], names[r.Intn(len(names))]
	var err error
	var want api.Class
	told := ""
	switch r.Intn(12) {
	case 0, 1, 2, 3:
		b := strings.Repeat(string(rune('0'+r.Intn(10))), r.Intn(5))
		err, want, told = d.Append(name, []byte(b)), m.append(name, b), fmt.Sprintf("Append(%q, %q)", name, b)
	case 4, 5:
		err, want, told = d.Sync(name), m.sync(name), fmt.Sprintf("Sync(%q)", name)
	case 6, 7:
		n := r.Intn(9) - 1
		err, want, told = d.Truncate(name, n), m.truncate(name, n), fmt.Sprintf("Truncate(%q, %d)", name, n)
	case 8:
		err, want, told = d.Rename(name, other), m.rename(name, other), fmt.Sprintf("Rename(%q, %q)", name, other)
	case 9:
		err, want, told = d.Remove(name), m.remove(name), fmt.Sprintf("Remove(%q)", name)
	case 10:
		n := r.Intn(12) - 2
		d.Halt(n)
		m.left, told = max(n, -1), fmt.Sprintf("Halt(%d)", n)
	case 11:
		keep := make([]int, r.Intn(6))
		for i := range keep {
			keep[i] = r.Intn(6) - 1
		}
		d.Crash(api.Crash{Keep: keep})
		m.crash(keep)
		told = fmt.Sprint("Crash ", keep)
	}
	if got := classOf(t, err); got != want {
		t.Fatalf("%s: class %d, want %d", told, got, want)
	}
	return told
}

// compare holds all that may be seen of both against each other.
func compare(t *testing.T, told []string, d *simdisk.Disk, m *model) {
	t.Helper()
	if fmt.Sprint(d.List()) != fmt.Sprint(m.names()) || d.Used() != m.used() || d.Count() != m.count {
		t.Fatalf("%q: %q, %d, %d; want %q, %d, %d", told, d.List(), d.Used(), d.Count(), m.names(), m.used(), m.count)
	}
	for _, name := range append(m.names(), "q") {
		b, err := d.Read(name)
		s, want := m.read(name)
		if string(b) != s || classOf(t, err) != want {
			t.Fatalf("%q: Read(%s): %q, %v; want %q, %d", told, name, b, err, s, want)
		}
	}
}

// TestModel: whatever is called, in whatever order (P2.1 to P2.4).
func TestModel(t *testing.T) {
	for seed := range 400 {
		r := rand.New(rand.NewSource(int64(seed)))
		room := 5 + r.Intn(40)
		d, m := simdisk.New(room), &model{room: room, parts: map[string]part{}, left: -1}
		var told []string
		for range 200 {
			told = append(told, step(t, r, d, m))
			compare(t, told, d, m)
		}
	}
}

// TestSyncedStays: a file that is only appended to and synced begins, behind any fall, with what was synced; and what is left is a beginning of what was appended (P2.5).
func TestSyncedStays(t *testing.T) {
	for seed := range 200 {
		r := rand.New(rand.NewSource(int64(seed)))
		d := simdisk.New(10000)
		done(t, d.Append("log", nil))
		all, sure := "", ""
		for range 100 {
			b := fmt.Sprint(r.Intn(1000), ";")
			switch r.Intn(8) {
			case 0, 1, 2, 3:
				if d.Append("log", []byte(b)) == nil {
					all += b
				}
			case 4, 5:
				if d.Sync("log") == nil {
					sure = all
				}
			case 6:
				d.Halt(r.Intn(6))
			case 7:
				d.Append("other", []byte(b)) // what else is on the disk doesn't matter
				d.Crash(api.Crash{Keep: []int{r.Intn(9) - 1, r.Intn(9)}})
				left, err := d.Read("log")
				if err != nil || !strings.HasPrefix(string(left), sure) || !strings.HasPrefix(all, string(left)) {
					t.Fatalf("P2.5: %q is left, %q was synced, of %q (%v)", left, sure, all, err)
				}
				all, sure = string(left), string(left)
			}
		}
	}
}

// TestSyncThenRename: the way a file is replaced: at whatever call the power goes, the name has all the old bytes or all the new ones (P2.5).
func TestSyncThenRename(t *testing.T) {
	for n := range 5 {
		for keep := range 5 {
			d := simdisk.New(100)
			done(t, d.Append("f", x("old")), d.Sync("f"))
			d.Halt(n)
			d.Append("new", x("anew"))
			d.Sync("new")
			renamed := d.Rename("new", "f") == nil
			d.Crash(api.Crash{Keep: []int{keep, keep}})
			b, err := d.Read("f")
			want := "old"
			if n >= 3 {
				want = "anew"
			}
			if err != nil || string(b) != want || renamed != (n >= 3) {
				t.Errorf("P2.5: Halt(%d): %q, %v", n, b, err)
			}
		}
	}
}
