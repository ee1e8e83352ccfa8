package wal_test

import (
	"fmt"
	"math"
	"strings"
	"testing"

	"consistory/api"
	"consistory/simdisk"
	"consistory/wal"
)

const empty = "0/-1 base 0/0:"

func TestOpenOfADiskWithoutOne(t *testing.T) {
	for _, size := range []int{0, 1, room} {
		d := simdisk.New(size)
		w := open(t, d)
		wantShow(t, "P3.1", w, empty)
		want(t, "P3.2: nothing is pending", w.Sync(), 0)
		if len(w.Entries()) != 0 || d.Used() != 0 {
			t.Errorf("P3.1: %v, %d bytes", w.Entries(), d.Used())
		}
		wantShow(t, "P3.1: again", open(t, d), empty)
	}
}

func TestOpenTellsTheDisksErrors(t *testing.T) {
	off := simdisk.New(room)
	off.Halt(0)
	off.Append("x", nil)
	w, err := wal.Open(off)
	want(t, "P3.1: the power is off", err, api.ErrDown)
	if w != nil {
		t.Errorf("rule 4: %v beside an error", w)
	}
	off.Crash(api.Crash{})
	done(t, open(t, off).SetHard(api.Hard{Term: 1}))
	off.Halt(0)
	w, err = wal.Open(off)
	want(t, "P3.1: the power goes while what is there is made sure", err, api.ErrDown)
	if w != nil {
		t.Errorf("rule 4: %v beside an error", w)
	}
}

// TestOpenIsSure: also of what wasn't synced when it was opened.
func TestOpenIsSure(t *testing.T) {
	d := simdisk.New(room)
	w := open(t, d)
	done(t, w.SetHard(api.Hard{Term: 3, Vote: 2}), w.Append(commands("ab")))
	told := show(open(t, d))
	wantSure(t, "P3.1", d, told)
	wantSure(t, "P3.1: again", d, told)
	for keep := range 120 {
		d := simdisk.New(room)
		w := open(t, d)
		done(t, w.Append(commands("abcd")), w.Cut(3), w.SetHard(api.Hard{Term: 1, Vote: 1}))
		d.Crash(api.Crash{Keep: []int{keep}})
		told := show(open(t, d))
		wantSure(t, fmt.Sprint("P3.1: ", keep, " bytes kept"), d, told)
	}
}

// TestOpenBesideAnother: what is opened to look doesn't hinder the one that writes.
func TestOpenBesideAnother(t *testing.T) {
	d := simdisk.New(room)
	w := open(t, d)
	for i := range 200 {
		done(t, w.Append(one(1, strings.Repeat("q", 900))), w.Cut(uint64(i+1)), w.SetHard(api.Hard{Term: uint64(i)}), w.Append(commands("ab")))
		wantShow(t, "P3.1", open(t, d), show(w))
		done(t, w.Drop(uint64(i+1), 1), w.Cut(uint64(i+2)), w.Sync())
		wantShow(t, "P3.1", open(t, d), show(w))
	}
}

func TestSetHard(t *testing.T) {
	d := simdisk.New(room)
	w := open(t, d)
	for _, vote := range []int{math.MinInt, math.MinInt + 1, -1001, -3, -2, 1001, 1002, math.MaxInt - 1, math.MaxInt} {
		want(t, fmt.Sprint("P3.2: a vote for ", vote), w.SetHard(api.Hard{Term: 5, Vote: vote}), api.ErrForm)
		wantShow(t, "rule 4: refused", w, empty)
	}
	done(t, w.Sync())
	wantSure(t, "rule 4: refused", d, empty)
	for _, h := range []api.Hard{{}, {Vote: -1}, {Vote: 1000}, {Term: math.MaxUint64, Vote: 3}, {Term: 128, Vote: 127}, {Term: 1, Vote: 999}} {
		w := open(t, d)
		done(t, w.SetHard(h))
		if w.Hard() != h {
			t.Errorf("P3.2: %v, want %v at once", w.Hard(), h)
		}
		done(t, w.Sync())
		wantSure(t, "P3.2", d, fmt.Sprintf("%d/%d base 0/0:", h.Term, h.Vote))
	}
}

func TestAppend(t *testing.T) {
	d := simdisk.New(room)
	w := open(t, d)
	all := []api.Entry{
		{}, {Term: math.MaxUint64}, command(0, ""), {Kind: api.EnCommand},
		{Term: math.MaxUint64, Kind: api.EnCommand, Client: math.MaxUint64, Seq: math.MaxUint64, Sql: strings.Repeat("m", api.MaxSQL)},
		command(9, "\x00\xff'\n"), command(3, "a term may fall"),
	}
	done(t, w.Append(all[:1]), w.Append(nil), w.Append(all[1:5]), w.Append([]api.Entry{}), w.Append(all[5:]))
	right := write(api.Hard{Vote: -1}, 0, 0, all)
	wantShow(t, "P3.2: at once", w, right)
	done(t, w.Sync())
	wantSure(t, "P3.2", d, right)
}

func TestAppendOfWhatMayNotBe(t *testing.T) {
	long := strings.Repeat("l", api.MaxSQL+1)
	for i, e := range []api.Entry{{Kind: 2}, {Kind: -1}, {Kind: math.MaxInt}, {Client: 1}, {Seq: 1}, {Sql: "x"}, command(1, long)} {
		for _, l := range [][]api.Entry{{e}, {e, command(2, "y")}, {command(2, "x"), e}, {command(2, "x"), e, command(2, "y")}} {
			d := simdisk.New(room)
			w := open(t, d)
			done(t, w.Append(commands("a")), w.Sync())
			want(t, fmt.Sprint("P3.2: entry ", i), w.Append(l), api.ErrForm)
			wantShow(t, "rule 4: refused", w, "0/-1 base 0/0: a@1")
			done(t, w.Append(commands("b")), w.Sync())
			wantSure(t, "rule 4: refused", d, "0/-1 base 0/0: a@1 b@1")
		}
	}
}

// three: a wal with the base 5/2 and the entries 6, 7, 8.
func three(t *testing.T) (*simdisk.Disk, *wal.Wal) {
	t.Helper()
	d := simdisk.New(room)
	w := open(t, d)
	done(t, w.Drop(5, 2), w.Append(commands("abc")), w.Sync())
	return d, w
}

func TestCut(t *testing.T) {
	for _, c := range []struct {
		from  uint64
		class api.Class
		left  string
	}{
		{0, api.ErrPlace, " a@1 b@1 c@1"}, {1, api.ErrPlace, " a@1 b@1 c@1"}, {5, api.ErrPlace, " a@1 b@1 c@1"},
		{6, 0, ""}, {7, 0, " a@1"}, {8, 0, " a@1 b@1"}, {9, 0, " a@1 b@1 c@1"},
		{10, api.ErrPlace, " a@1 b@1 c@1"}, {math.MaxUint64, api.ErrPlace, " a@1 b@1 c@1"},
	} {
		d, w := three(t)
		want(t, fmt.Sprint("P3.2: Cut ", c.from), w.Cut(c.from), c.class)
		wantShow(t, fmt.Sprint("P3.2: Cut ", c.from, " at once"), w, "0/-1 base 5/2:"+c.left)
		done(t, w.Append(one(4, "d")), w.Sync())
		wantShow(t, fmt.Sprint("P3.2: behind Cut ", c.from), w, "0/-1 base 5/2:"+c.left+" d@4")
		wantSure(t, fmt.Sprint("P3.2: Cut ", c.from), d, "0/-1 base 5/2:"+c.left+" d@4")
	}
	w := open(t, simdisk.New(room))
	want(t, "P3.2: Cut(0) of none", w.Cut(0), api.ErrPlace)
	want(t, "P3.2: Cut(1) of none", w.Cut(1), 0)
	want(t, "P3.2: Cut(2) of none", w.Cut(2), api.ErrPlace)
}

func TestDrop(t *testing.T) {
	const high = 1 << 62
	for _, c := range []struct {
		index uint64
		class api.Class
		left  string
	}{
		{0, api.ErrPlace, "5/2: a@1 b@1 c@1"}, {4, api.ErrPlace, "5/2: a@1 b@1 c@1"},
		{5, 0, "5/9: a@1 b@1 c@1"}, {6, 0, "6/9: b@1 c@1"}, {7, 0, "7/9: c@1"}, {8, 0, "8/9:"}, {9, 0, "9/9:"}, {1000, 0, "1000/9:"},
		{high - 1, 0, fmt.Sprint(high-1, "/9:")}, {high, 0, fmt.Sprint(high, "/9:")},
		{high + 1, api.ErrPlace, "5/2: a@1 b@1 c@1"}, {math.MaxUint64, api.ErrPlace, "5/2: a@1 b@1 c@1"},
	} {
		d, w := three(t)
		want(t, fmt.Sprint("P3.2: Drop ", c.index), w.Drop(c.index, 9), c.class)
		wantShow(t, fmt.Sprint("P3.2: Drop ", c.index, " at once"), w, "0/-1 base "+c.left)
		done(t, w.Append(one(4, "d")), w.Sync())
		wantShow(t, fmt.Sprint("P3.2: behind Drop ", c.index), w, "0/-1 base "+c.left+" d@4")
		wantSure(t, fmt.Sprint("P3.2: Drop ", c.index), d, "0/-1 base "+c.left+" d@4")
	}
	d := simdisk.New(room)
	w := open(t, d)
	done(t, w.Drop(0, math.MaxUint64), w.Append(commands("a")), w.Cut(1), w.Sync())
	wantSure(t, "P3.2: Drop(0, term)", d, "0/-1 base 0/18446744073709551615:")
}

// TestTheHighestBase: indexes above 2^62 are entries' still.
func TestTheHighestBase(t *testing.T) {
	const high = 1 << 62
	d := simdisk.New(room)
	w := open(t, d)
	done(t, w.Drop(high, 3), w.Append(commands("abc")))
	want(t, "P3.2: Drop above 2^62", w.Drop(high+1, 3), api.ErrPlace)
	want(t, "P3.2: Cut at the base", w.Cut(high), api.ErrPlace)
	want(t, "P3.2: Cut past the end", w.Cut(high+5), api.ErrPlace)
	done(t, w.Cut(high+2), w.Sync())
	wantSure(t, "P3.2", d, "0/-1 base 4611686018427387904/3: a@1")
}

// TestRefusalsComeAheadOfTheDisk: the chapter names them first (rule 4).
func TestRefusalsComeAheadOfTheDisk(t *testing.T) {
	d, w := three(t)
	d.Halt(0)
	want(t, "P3.3", w.SetHard(api.Hard{}), api.ErrDown)
	want(t, "SetHard", w.SetHard(api.Hard{Vote: 1001}), api.ErrForm)
	want(t, "Append", w.Append([]api.Entry{{Kind: 9}}), api.ErrForm)
	want(t, "Cut", w.Cut(5), api.ErrPlace)
	want(t, "Drop", w.Drop(4, 0), api.ErrPlace)
	d.Crash(api.Crash{})
	wantShow(t, "P3.3", open(t, d), "0/-1 base 5/2: a@1 b@1 c@1")
}

func TestTheExample(t *testing.T) {
	d := simdisk.New(room)
	w := open(t, d)
	done(t, w.Append(commands("ab")), w.Sync(), w.Cut(2), w.Append(commands("c")), w.Sync())
	wantShow(t, "the chapter's example", w, "0/-1 base 0/0: a@1 c@1")
	wantSure(t, "the chapter's example", d, "0/-1 base 0/0: a@1 c@1")
}

// TestMemory: a wal shares none with what is handed in or answered (rule 3).
func TestMemory(t *testing.T) {
	d := simdisk.New(room)
	w := open(t, d)
	in := append(make([]api.Entry, 0, 6), commands("abc")...)
	done(t, w.Append(in))
	for i, e := range in[:cap(in)] {
		if i < 3 && e != commands("abc")[i] || i >= 3 && e != (api.Entry{}) {
			t.Errorf("rule 3: what was handed in became %v", in[:cap(in)])
		}
	}
	clear(in[:cap(in)])
	first, second := w.Entries(), w.Entries()
	clear(first[:cap(first)])
	wantShow(t, "rule 3", w, "0/-1 base 0/0: a@1 b@1 c@1")
	done(t, w.Cut(2), w.Append(commands("xyz")), w.Drop(1, 1), w.Append(commands("u")))
	if got := write(api.Hard{}, 0, 0, second); got != "0/0 base 0/0: a@1 b@1 c@1" {
		t.Errorf("rule 3: an answer became %q", got)
	}
	third := w.Entries()
	_ = append(third[:1], commands("!!!!!!!!")...)
	wantShow(t, "rule 3", w, "0/-1 base 1/1: x@1 y@1 z@1 u@1")
	done(t, w.Sync())
	wantSure(t, "rule 3", d, "0/-1 base 1/1: x@1 y@1 z@1 u@1")
}

// TestOtherFilesStay: those whose names don't begin with wal aren't touched: neither their bytes nor what of them is sure.
func TestOtherFilesStay(t *testing.T) {
	names := []string{"a", "snap", "w", "wa", "wa.l", "xwal", "z.wal"}
	d := simdisk.New(1 << 20)
	for _, name := range names {
		done(t, d.Append(name, []byte(name)), d.Sync(name), d.Append(name, []byte("unsure")))
	}
	w := open(t, d)
	for i := range 300 {
		done(t, w.Append(one(1, strings.Repeat("q", 1000))), w.SetHard(api.Hard{Term: uint64(i)}), w.Cut(1), w.Sync())
	}
	open(t, d)
	for _, name := range d.List() {
		b, err := d.Read(name)
		if !strings.HasPrefix(name, "wal") && (err != nil || string(b) != name+"unsure") {
			t.Errorf("%s has %q, %v", name, b, err)
		}
	}
	d.Crash(api.Crash{})
	for _, name := range names {
		if b, err := d.Read(name); err != nil || string(b) != name {
			t.Errorf("of %s %q is sure, %v", name, b, err)
		}
	}
	wantShow(t, "P3.5", open(t, d), "299/0 base 0/0:")
}

// TestWalsAreApart: what one is told, another doesn't tell (rule 6).
func TestWalsAreApart(t *testing.T) {
	v, w := open(t, simdisk.New(room)), open(t, simdisk.New(room))
	done(t, v.SetHard(api.Hard{Term: 1}), v.Append(commands("a")), v.Sync())
	wantShow(t, "rule 6", w, empty)
}

// TestZeroWal: one that Open didn't make takes all calls, too.
func TestZeroWal(t *testing.T) {
	var w wal.Wal
	wantShow(t, "the zero Wal", &w, empty)
	want(t, "SetHard", w.SetHard(api.Hard{Term: 1}), api.ErrFull)
	want(t, "Append", w.Append(commands("a")), api.ErrFull)
	want(t, "Append of nothing", w.Append(nil), 0)
	want(t, "Cut", w.Cut(1), api.ErrFull)
	want(t, "Drop", w.Drop(1, 1), api.ErrFull)
	want(t, "Sync", w.Sync(), 0)
	wantShow(t, "the zero Wal", &w, empty)
}
