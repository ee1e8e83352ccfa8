package snap_test

import (
	"fmt"
	"math"
	"slices"
	"strings"
	"testing"

	"consistory/api"
	"consistory/simdisk"
	"consistory/snap"
)

func TestNoSnapshot(t *testing.T) {
	d := simdisk.New(1000)
	wantLoad(t, "P4.1: an empty disk", d, none)
	done(t, d.Append("wal", []byte("x")), d.Append("sna", []byte("y")), d.Append("a.snap", nil))
	before := show(d)
	wantLoad(t, "P4.1: other files", d, none)
	if show(d) != before {
		t.Errorf("Load changed %s to %s", before, show(d))
	}
}

func TestSavedIsSure(t *testing.T) {
	for _, s := range []api.Snapshot{
		{}, of(1, 1, "x"), of(0, 5, "zero"), of(5, 0, ""), of(math.MaxUint64, math.MaxUint64, "great"), of(128, 1<<62, "\x00\xff\x00"),
		{Index: 3, Term: 4, Data: pattern(1)}, {Index: 3, Term: 4, Data: pattern(200)}, {Index: 3, Term: 4, Data: pattern(5000)},
	} {
		d := simdisk.New(1 << 20)
		want(t, "P4.1: Save", snap.Save(d, s), 0)
		wantLoad(t, "P4.1: saved", d, write(s, true))
		wantLoad(t, "P4.1: told twice", d, write(s, true))
		wantSure(t, "P4.1: sure", d, write(s, true))
		wantSure(t, "P4.1: sure for good", d, write(s, true))
	}
}

// TestGreatestIndexCounts: whatever was saved in whatever order.
func TestGreatestIndexCounts(t *testing.T) {
	d := simdisk.New(1 << 16)
	for _, c := range []struct {
		s     api.Snapshot
		right string
	}{
		{of(5, 2, "five"), `5/2 "five"`},
		{of(3, 9, "three"), `5/2 "five"`},
		{of(4, 9, "a longer one, of a later term"), `5/2 "five"`},
		{of(5, 3, "later"), `5/3 "later"`},
		{of(5, 1, "later still"), `5/1 "later still"`},
		{of(5, 1, ""), `5/1 ""`},
		{of(0, 9, "nought"), `5/1 ""`},
		{of(6, 0, "six"), `6/0 "six"`},
		{of(300, 1, "300"), `300/1 "300"`},
		{of(299, 2, "299"), `300/1 "300"`},
		{of(1<<63, 0, "half"), `9223372036854775808/0 "half"`},
		{of(1<<63-1, 0, "less"), `9223372036854775808/0 "half"`},
		{of(math.MaxUint64, 0, "all"), `18446744073709551615/0 "all"`},
		{of(0, 0, "wrapped"), `18446744073709551615/0 "all"`},
		{of(math.MaxUint64, 0, "again"), `18446744073709551615/0 "again"`},
	} {
		done(t, snap.Save(d, c.s))
		wantLoad(t, "P4.1: the greatest Index", d, c.right)
		wantSure(t, "P4.1: the greatest Index, sure", d, c.right)
	}
}

func TestGreatData(t *testing.T) {
	d := simdisk.New(1 << 20)
	done(t, snap.Save(d, of(1, 1, "one")))
	before := show(d)
	for _, n := range []int{most + 1, most + 2, api.MaxFrame, api.MaxFrame + 1, api.MaxFile + 1} {
		want(t, fmt.Sprint("P4.1: Data of ", n), snap.Save(d, api.Snapshot{Index: 2, Data: make([]byte, n)}), api.ErrForm)
	}
	if show(d) != before {
		t.Errorf("rule 4: %s became %s", shorten(before), shorten(show(d)))
	}
	for _, s := range []api.Snapshot{
		{Index: 2, Term: 3, Data: pattern(most - 1)}, {Index: math.MaxUint64, Term: math.MaxUint64, Data: pattern(most)},
	} {
		want(t, "P4.1: the most Data", snap.Save(d, s), 0)
		wantSure(t, "P4.1: the most Data", d, write(s, true))
	}
}

// TestGreatDataAhead: ErrForm is named ahead of the disk's errors, also of a snapshot that is older.
func TestGreatDataAhead(t *testing.T) {
	great := api.Snapshot{Index: 1, Data: make([]byte, most+1)}
	want(t, "P4.1: no room", snap.Save(simdisk.New(0), great), api.ErrForm)
	d := simdisk.New(1000)
	done(t, snap.Save(d, of(9, 1, "nine")))
	want(t, "P4.1: older", snap.Save(d, great), api.ErrForm)
	d.Halt(0)
	want(t, "P4.1: the power would go", snap.Save(d, great), api.ErrForm)
	wantLoad(t, "P4.1: it didn't", d, `9/1 "nine"`)
	d.Append("x", nil)
	want(t, "P4.1: the power is off", snap.Save(d, great), api.ErrForm)
}

func TestNoRoom(t *testing.T) {
	d := simdisk.New(100)
	want(t, "P4.1: no room", snap.Save(d, of(1, 1, strings.Repeat("x", 101))), api.ErrFull)
	if len(d.List()) != 0 || d.Used() != 0 {
		t.Errorf("rule 4: %s", show(d))
	}
	wantLoad(t, "P4.1: refused", d, none)
	done(t, snap.Save(d, of(1, 1, "one")))
	before := show(d)
	want(t, "P4.1: no room", snap.Save(d, of(2, 1, strings.Repeat("x", 100))), api.ErrFull)
	want(t, "P4.1: no room, the same Index", snap.Save(d, of(1, 1, strings.Repeat("x", 100))), api.ErrFull)
	if show(d) != before {
		t.Errorf("rule 4: %s became %s", before, show(d))
	}
	wantSure(t, "P4.1: refused", d, `1/1 "one"`)
	want(t, "P4.1: no room at all", snap.Save(simdisk.New(0), api.Snapshot{}), api.ErrFull)
}

// TestFilesOfOthers: a disk that has as many files as it may takes no more.
func TestFilesOfOthers(t *testing.T) {
	d := simdisk.New(1000)
	for i := range api.MaxFiles {
		done(t, d.Append(fmt.Sprint("f", i), nil))
	}
	want(t, "P4.1: MaxFiles", snap.Save(d, of(1, 1, "one")), api.ErrFull)
	wantLoad(t, "P4.1: MaxFiles", d, none)
	done(t, d.Remove("f1"), d.Remove("f2"))
	done(t, snap.Save(d, of(1, 1, "one")), snap.Save(d, of(2, 1, "two")))
	wantSure(t, "P4.1: MaxFiles", d, `2/1 "two"`)
}

// TestRoomForTwo: older ones go, so that the newest and the next one are all that needs room.
func TestRoomForTwo(t *testing.T) {
	d := simdisk.New(2 * (1000 + 64))
	for i := range uint64(200) {
		want(t, fmt.Sprint("P4.1: snapshot ", i), snap.Save(d, api.Snapshot{Index: i, Data: pattern(1000)}), 0)
	}
	want(t, "P4.1: one that is older", snap.Save(d, api.Snapshot{Index: 7, Data: pattern(1000)}), 0)
	wantSure(t, "P4.1", d, write(api.Snapshot{Index: 199, Data: pattern(1000)}, true))
	if len(d.List()) > 2 {
		t.Errorf("P4.1: the files %q", d.List())
	}
}

func TestPowerIsOff(t *testing.T) {
	for _, d := range []*simdisk.Disk{simdisk.New(0), simdisk.New(1000)} {
		snap.Save(d, of(5, 1, "five"))
		right := load(t, d)
		d.Halt(0)
		d.Append("x", nil)
		for _, index := range []uint64{4, 5, 6} {
			want(t, "P4.1: Save", snap.Save(d, of(index, 2, "new")), api.ErrDown)
		}
		s, ok, err := snap.Load(d)
		want(t, "P4.1: Load", err, api.ErrDown)
		if ok || write(s, ok) != none {
			t.Errorf("rule 4: %s beside %v", write(s, ok), err)
		}
		wantSure(t, "P4.1: the power comes back", d, right)
	}
}

// TestSaveNeedsPower: a Save that ends well has made something sure, so one of which no changing call is done doesn't.
func TestSaveNeedsPower(t *testing.T) {
	for _, index := range []uint64{0, 4, 5, 6} {
		d := simdisk.New(1000)
		done(t, snap.Save(d, of(5, 1, "five")))
		d.Halt(0)
		want(t, fmt.Sprint("P4.1: of Index ", index), snap.Save(d, of(index, 2, "new")), api.ErrDown)
		wantSure(t, "P4.2", d, `5/1 "five"`)
	}
}

// TestLoadChangesNothing: it does no changing call, whatever is on the disk.
func TestLoadChangesNothing(t *testing.T) {
	d := simdisk.New(1000)
	done(t, snap.Save(d, of(5, 1, "five")), d.Append("snap-x", []byte("x")), d.Append("other", []byte("y")))
	before := show(d)
	d.Halt(0)
	wantLoad(t, "P4.1", d, `5/1 "five"`)
	if show(d) != before {
		t.Errorf("%s became %s", before, show(d))
	}
}

// TestOtherFilesStay: with their bytes, and with what of them is sure.
func TestOtherFilesStay(t *testing.T) {
	d := simdisk.New(4000)
	others := []string{"wal", "wal.new", "sna", "s", "a.snap", "-snap", "xsnap.new", "snbp", "zz"}
	for _, name := range others {
		done(t, d.Append(name, []byte("sure")), d.Sync(name), d.Append(name, []byte("+un")))
	}
	for i, index := range []uint64{5, 3, 5, 9, 8, 10} {
		done(t, snap.Save(d, of(index, uint64(i), "data")))
		wantLoad(t, "P4.1", d, load(t, d))
		checkOthers(t, d, others, "sure+un")
	}
	d.Halt(1)
	want(t, "P4.1", snap.Save(d, of(20, 1, "data")), api.ErrDown)
	d.Crash(api.Crash{})
	checkOthers(t, d, others, "sure")
	done(t, snap.Save(d, of(20, 1, "data")))
	checkOthers(t, d, others, "sure")
	for _, name := range d.List() {
		if !slices.Contains(others, name) && !strings.HasPrefix(name, "snap") {
			t.Errorf("a file %q", name)
		}
	}
}

func checkOthers(t *testing.T, d *simdisk.Disk, names []string, right string) {
	t.Helper()
	for _, name := range names {
		if b, err := d.Read(name); string(b) != right || err != nil {
			t.Errorf("the file %s: %q, %v", name, b, err)
		}
	}
}

// TestDisksAreApart: what one has, another doesn't tell.
func TestDisksAreApart(t *testing.T) {
	d, e := simdisk.New(1000), simdisk.New(1000)
	done(t, snap.Save(d, of(5, 1, "five")))
	wantLoad(t, "rule 6", e, none)
	done(t, snap.Save(e, of(3, 1, "three")))
	wantLoad(t, "rule 6", d, `5/1 "five"`)
	wantLoad(t, "rule 6", e, `3/1 "three"`)
}

// TestSaveMemory: nothing that is handed in or answered is shared.
func TestSaveMemory(t *testing.T) {
	d := simdisk.New(1000)
	room := []byte("five....")
	done(t, snap.Save(d, api.Snapshot{Index: 5, Term: 1, Data: room[:4]}))
	if string(room) != "five...." {
		t.Errorf("rule 3: %q", room)
	}
	copy(room, "ZZZZZZZZ")
	first, _, _ := snap.Load(d)
	second, _, _ := snap.Load(d)
	scribble(first.Data)
	if string(second.Data) != "five" {
		t.Errorf("rule 3: an answer became %q", second.Data)
	}
	wantSure(t, "rule 3", d, `5/1 "five"`)
}

// scribble writes over all of b and the room behind it.
func scribble(b []byte) {
	b = b[:cap(b)]
	for i := range b {
		b[i] = '!'
	}
}
