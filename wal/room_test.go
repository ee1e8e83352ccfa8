package wal_test

import (
	"fmt"
	"math"
	"math/rand"
	"strings"
	"testing"

	"consistory/api"
	"consistory/simdisk"
)

// TestManyCalls: those that add no entry fill no disk, synced or not (P3.4).
func TestManyCalls(t *testing.T) {
	for _, every := range []int{1, 7, 1 << 30} {
		d := simdisk.New(room)
		w := open(t, d)
		done(t, w.Append(commands("ab")))
		for i := range 20000 {
			done(t, w.SetHard(api.Hard{Term: math.MaxUint64 - uint64(i), Vote: 1000}), w.Cut(3), w.Drop(0, uint64(i)), w.Append(nil))
			if i%every == 0 {
				done(t, w.Sync())
			}
			if i%5000 == 0 {
				w = open(t, d)
			}
		}
		right := fmt.Sprint(uint64(math.MaxUint64-19999), "/1000 base 0/19999: a@1 b@1")
		wantShow(t, "P3.4", w, right)
		done(t, w.Sync())
		wantSure(t, "P3.4", d, right)
	}
}

// TestManyOpens: what was written ahead of an Open counts as what is written behind it (P3.4).
func TestManyOpens(t *testing.T) {
	d := simdisk.New(room)
	for i := range 2000 {
		w := open(t, d)
		for range 20 {
			done(t, w.SetHard(api.Hard{Term: uint64(i)}))
		}
		done(t, w.Sync())
	}
	wantSure(t, "P3.4", d, "1999/0 base 0/0:")
}

// full: entries of just 16384 bytes by P3.4, the greatest that may be, each with a text of size bytes (the last one with what is left).
func full(size int) []api.Entry {
	var l []api.Entry
	for left := 16384; left >= 40; {
		n := min(size, left-40)
		l = append(l, api.Entry{Term: math.MaxUint64, Kind: api.EnCommand, Client: math.MaxUint64, Seq: math.MaxUint64, Sql: strings.Repeat("f", n)})
		left -= n + 40
	}
	return l
}

// TestFullOfEntries: as many as may be there at one time, gone and there again; each call may be the one that falls.
func TestFullOfEntries(t *testing.T) {
	for _, size := range []int{0, 1, 86, 87, 88, 127, 128, 500, 2000} {
		l := full(size)
		d := simdisk.New(room)
		w := open(t, d)
		for i := range 60 {
			base, _ := w.Base()
			done(t, w.SetHard(api.Hard{Term: uint64(i)}))
			if i%3 == 0 {
				done(t, w.Append(l))
			} else {
				for k := 0; k < len(l); k += 4 {
					done(t, w.Append(l[k:min(k+4, len(l))]))
				}
			}
			if len(w.Entries()) != len(l) {
				t.Fatalf("P3.4: %d entries", len(w.Entries()))
			}
			done(t, w.Sync())
			if i%2 == 0 {
				done(t, w.Drop(base+uint64(len(l)), 1))
			} else {
				done(t, w.Cut(base+1))
			}
			done(t, w.SetHard(api.Hard{Term: uint64(i), Vote: 5}), w.Sync())
		}
	}
}

// TestFullAgain: the file is as long as it may be, at some of these, when as many entries as may be come at once.
func TestFullAgain(t *testing.T) {
	high := api.Hard{Term: math.MaxUint64, Vote: 1000}
	for _, l := range [][]api.Entry{full(0), full(2000)} {
		for between := 0; between < 1700; between += 20 {
			d := simdisk.New(room)
			w := open(t, d)
			for range 3 {
				done(t, w.Append(l), w.Sync(), w.SetHard(high), w.Cut(1), w.Sync())
				for range between {
					done(t, w.SetHard(high))
				}
			}
			done(t, w.Append(l), w.Sync())
			for range 1000 {
				done(t, w.SetHard(high), w.Sync())
			}
		}
	}
}

// TestFullOfEntriesAndSetHards: entries that stay don't hinder what else is told.
func TestFullOfEntriesAndSetHards(t *testing.T) {
	for _, size := range []int{0, 2000} {
		d := simdisk.New(room)
		w := open(t, d)
		done(t, w.Append(full(size)))
		for i := range 10000 {
			done(t, w.SetHard(api.Hard{Term: uint64(i)}), w.Sync())
		}
		w = open(t, d)
		if w.Hard().Term != 9999 || len(w.Entries()) != len(full(size)) {
			t.Errorf("P3.4: %s", show(w))
		}
	}
}

// TestRoomBehindFalls: what a fall leaves takes no room for good.
func TestRoomBehindFalls(t *testing.T) {
	r := rand.New(rand.NewSource(1))
	d := simdisk.New(room)
	l := full(300)
	for i := range 1500 {
		w := open(t, d)
		d.Halt(r.Intn(15))
		for w.SetHard(api.Hard{Term: uint64(i)}) == nil {
			base, _ := w.Base()
			if w.Append(l[len(w.Entries()):]) != nil || w.Drop(base+uint64(r.Intn(len(l))), 1) != nil {
				break
			}
		}
		want(t, "P3.4", w.Sync(), api.ErrDown)
		d.Crash(api.Crash{Keep: []int{r.Intn(1 << 15), r.Intn(1 << 15)}})
	}
	w := open(t, d)
	done(t, w.Append(l[len(w.Entries()):]), w.Sync())
}

// TestTooSmall: a disk without the room tells so, and what it had stays.
func TestTooSmall(t *testing.T) {
	d := simdisk.New(200)
	w := open(t, d)
	done(t, w.SetHard(api.Hard{Term: 7, Vote: 7}), w.Append(commands("a")), w.Sync())
	before := show(w)
	want(t, "P3.3: no room", w.Append(one(1, strings.Repeat("l", 200))), api.ErrFull)
	wantShow(t, "rule 4", w, before)
	wantSure(t, "P3.3: no room", d, before)
	w, err := open(t, d), error(nil)
	for err == nil {
		before = show(w)
		err = w.Append(commands("b"))
	}
	want(t, "P3.3: no room by and by", err, api.ErrFull)
	wantShow(t, "P3.3: no room", open(t, d), before)
}

// TestSmallDisk: little takes little, whatever is told again and again.
func TestSmallDisk(t *testing.T) {
	d := simdisk.New(33000)
	w := open(t, d)
	done(t, w.Append(commands("ab")))
	for i := range 10000 {
		done(t, w.SetHard(api.Hard{Term: uint64(i), Vote: 3}), w.Sync())
	}
	wantSure(t, "a small disk", d, "9999/3 base 0/0: a@1 b@1")
}

// TestNoPlaceForANewFile: the old one does, as long as it has room.
func TestNoPlaceForANewFile(t *testing.T) {
	d := simdisk.New(1 << 20)
	w := open(t, d)
	done(t, w.SetHard(api.Hard{}))
	for i := range api.MaxFiles - 1 {
		done(t, d.Append(fmt.Sprint("other", i), nil))
	}
	for i := range 4000 {
		done(t, w.SetHard(api.Hard{Term: uint64(i), Vote: 3}))
	}
	done(t, w.Sync())
	if d.Used() < 40000 {
		t.Errorf("%d bytes: this test has lost its sense", d.Used())
	}
	wantSure(t, "no place for a file", d, "3999/3 base 0/0:")
}

// TestLong: far more entries than P3.4 asks for, on a disk that has room; a file is written anew seldom enough.
func TestLong(t *testing.T) {
	d := simdisk.New(1 << 22)
	w := open(t, d)
	for i := range 20000 {
		done(t, w.Append(one(uint64(i), "insert")))
	}
	if n := d.Count(); n > 20100 {
		t.Errorf("%d changing calls", n)
	}
	for i := range uint64(15000) {
		done(t, w.Drop(i, i))
	}
	done(t, w.Cut(19000), w.Sync())
	w = open(t, d)
	base, _ := w.Base()
	if l := w.Entries(); base != 14999 || len(l) != 4000 || l[0] != command(14999, "insert") {
		t.Errorf("P3.2: base %d, %d entries", base, len(l))
	}
}

// TestFileLimit: a file that may not grow is written anew, while what is needed fits into one.
func TestFileLimit(t *testing.T) {
	d := simdisk.New(1 << 23)
	w := open(t, d)
	long := make([]api.Entry, 100)
	for i := range long {
		long[i] = command(1, strings.Repeat("l", api.MaxSQL))
	}
	done(t, w.Append(long), w.Append(long), w.Append(long), w.Append(long))
	for range 20 {
		done(t, w.Append(long), w.Cut(401))
	}
	done(t, w.Sync())
	err := error(nil)
	for err == nil {
		err = w.Append(long)
	}
	want(t, "P3.3: no room in a file", err, api.ErrFull)
	d.Crash(api.Crash{})
	if n := len(open(t, d).Entries()); n != 400 && n != 500 {
		t.Errorf("P3.3: %d entries", n)
	}
}
