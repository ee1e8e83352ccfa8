package simdisk_test

import (
	"fmt"
	"math"
	"slices"
	"testing"

	"consistory/api"
	"consistory/simdisk"
)

// some: a disk with two files: a=12|3 and b=|45 (the bar: what is ahead of it is sure). Four calls count.
func some(t *testing.T) *simdisk.Disk {
	t.Helper()
	d := simdisk.New(10)
	done(t, d.Append("a", x("12")), d.Sync("a"), d.Append("a", x("3")), d.Append("b", x("45")))
	return d
}

// changing: a changing call of each kind that some's disk takes, and what the disk shows behind it.
var changing = []struct {
	name string
	call func(d *simdisk.Disk) error
	then string
}{
	{"Append", func(d *simdisk.Disk) error { return d.Append("a", x("+")) }, "a=123+ b=45 used 6"},
	{"Append of a new file", func(d *simdisk.Disk) error { return d.Append("c", x("+")) }, "a=123 b=45 c=+ used 6"},
	{"Append of nothing", func(d *simdisk.Disk) error { return d.Append("a", nil) }, "a=123 b=45 used 5"},
	{"Sync", func(d *simdisk.Disk) error { return d.Sync("a") }, "a=123 b=45 used 5"},
	{"Truncate", func(d *simdisk.Disk) error { return d.Truncate("a", 1) }, "a=1 b=45 used 3"},
	{"Truncate of nothing", func(d *simdisk.Disk) error { return d.Truncate("a", 3) }, "a=123 b=45 used 5"},
	{"Rename", func(d *simdisk.Disk) error { return d.Rename("a", "c") }, "b=45 c=123 used 5"},
	{"Rename onto another", func(d *simdisk.Disk) error { return d.Rename("a", "b") }, "b=123 used 3"},
	{"Rename to the same", func(d *simdisk.Disk) error { return d.Rename("a", "a") }, "a=123 b=45 used 5"},
	{"Remove", func(d *simdisk.Disk) error { return d.Remove("a") }, "b=45 used 2"},
}

// refused: calls that some's disk refuses, and why.
var refused = []struct {
	name string
	call func(d *simdisk.Disk) error
	want api.Class
}{
	{"Append, no name", func(d *simdisk.Disk) error { return d.Append("A", nil) }, api.ErrForm},
	{"Append, full", func(d *simdisk.Disk) error { return d.Append("a", zeros(6)) }, api.ErrFull},
	{"Sync, no file", func(d *simdisk.Disk) error { return d.Sync("q") }, api.ErrFile},
	{"Truncate, no file", func(d *simdisk.Disk) error { return d.Truncate("q", 0) }, api.ErrFile},
	{"Truncate, no place", func(d *simdisk.Disk) error { return d.Truncate("a", 4) }, api.ErrPlace},
	{"Rename, no name", func(d *simdisk.Disk) error { return d.Rename("a", "A") }, api.ErrForm},
	{"Rename, no file", func(d *simdisk.Disk) error { return d.Rename("q", "a") }, api.ErrFile},
	{"Remove, no file", func(d *simdisk.Disk) error { return d.Remove("q") }, api.ErrFile},
}

func TestChangingCallsCount(t *testing.T) {
	for _, c := range changing {
		d := some(t)
		want(t, "P2.2: "+c.name, c.call(d), 0)
		wantShow(t, "P2.2: "+c.name, d, c.then+" count 5")
	}
}

func TestRefusedCallsDoNothing(t *testing.T) {
	for _, c := range refused {
		d := some(t)
		want(t, "P2.2: "+c.name, c.call(d), c.want)
		wantShow(t, "P2.2: "+c.name, d, "a=123 b=45 used 5 count 4")
		d.Crash(api.Crash{})
		wantShow(t, "P2.2: "+c.name+", a fall", d, "a=12 b= used 2 count 4")
	}
}

func TestOtherCallsDoNotCount(t *testing.T) {
	d := some(t)
	d.Halt(1)
	d.Read("a")
	d.Read("q")
	d.List()
	d.Used()
	d.Count()
	want(t, "P2.3: the one that Halt left", d.Sync("a"), 0)
	d.Halt(7)
	d.Halt(-1)
	d.Crash(api.Crash{})
	if d.Count() != 5 {
		t.Errorf("P2.2: count %d", d.Count())
	}
}

// TestHalt: at each number of calls that are left, and with each kind as the one that is too many.
func TestHalt(t *testing.T) {
	for n := range 5 {
		for _, c := range changing {
			d := some(t)
			d.Halt(n)
			for range n {
				done(t, d.Append("b", x("6")))
			}
			for _, r := range refused {
				want(t, "P2.3: takes none of those that are left: "+r.name, r.call(d), r.want)
			}
			if _, err := d.Read("a"); err != nil {
				t.Errorf("P2.3: the power went ahead of the call that is too many: %v", err)
			}
			used := d.Used()
			want(t, fmt.Sprintf("P2.3: Halt(%d), %s", n, c.name), c.call(d), api.ErrDown)
			if !slices.Equal(d.List(), []string{"a", "b"}) || d.Used() != used || d.Count() != 4+n {
				t.Errorf("P2.3: %s: %q, %d, %d", c.name, d.List(), d.Used(), d.Count())
			}
			wantDown(t, d)
			d.Crash(api.Crash{Keep: []int{9, 9}})
			wantShow(t, "P2.3: not done: "+c.name, d, fmt.Sprintf("a=123 b=45%s used %d count %d", "6666"[:n], used, 4+n))
		}
	}
}

// TestNotDoneIsNotSure: the Sync that is too many makes nothing sure.
func TestNotDoneIsNotSure(t *testing.T) {
	d := some(t)
	d.Halt(0)
	want(t, "P2.3", d.Sync("a"), api.ErrDown)
	if got := sureOf(t, d, "a"); got != "12" {
		t.Errorf("P2.3: %q", got)
	}
}

// wantDown holds all calls of some's disk at a power that is off: ErrDown comes ahead of all else.
func wantDown(t *testing.T, d *simdisk.Disk) {
	t.Helper()
	list, used, count := d.List(), d.Used(), d.Count()
	for _, c := range changing {
		want(t, "P2.2: off: "+c.name, c.call(d), api.ErrDown)
	}
	for _, c := range refused {
		want(t, "P2.2: off: "+c.name, c.call(d), api.ErrDown)
	}
	for _, name := range []string{"a", "q", "A", ""} {
		_, err := d.Read(name)
		want(t, "P2.2: off: Read", err, api.ErrDown)
	}
	if !slices.Equal(d.List(), list) || d.Used() != used || d.Count() != count {
		t.Errorf("P2.2: off: %q, %d, %d", d.List(), d.Used(), d.Count())
	}
}

func TestHaltDoesNotBringPowerBack(t *testing.T) {
	for _, n := range []int{-1, math.MinInt, 0, 1, 100, math.MaxInt} {
		d := some(t)
		d.Halt(0)
		d.Sync("a")
		d.Halt(n)
		wantDown(t, d)
		d.Crash(api.Crash{})
		done(t, d.Append("a", x("7")), d.Append("a", x("8")))
		wantShow(t, "P2.4: no Halt is set", d, "a=1278 b= used 4 count 6")
	}
}

func TestHaltAnew(t *testing.T) {
	d := some(t)
	d.Halt(0)
	d.Halt(-1)
	done(t, d.Sync("a"), d.Sync("a"))
	d.Halt(0)
	d.Halt(2)
	done(t, d.Sync("a"), d.Sync("a"))
	want(t, "P2.3: the newest Halt counts", d.Sync("a"), api.ErrDown)
	d.Crash(api.Crash{})
	d.Halt(5)
	d.Halt(1)
	done(t, d.Sync("a"))
	want(t, "P2.3: the newest Halt counts", d.Sync("a"), api.ErrDown)
	d.Crash(api.Crash{})
	d.Halt(math.MaxInt)
	done(t, d.Sync("a"), d.Sync("a"))
	d.Halt(math.MinInt)
	done(t, d.Sync("a"), d.Sync("a"))
	if d.Count() != 13 {
		t.Errorf("P2.3: count %d", d.Count())
	}
}

// TestCrashClearsHalt: also one at which the power didn't go.
func TestCrashClearsHalt(t *testing.T) {
	for n := range 3 {
		d := some(t)
		d.Halt(n)
		d.Crash(api.Crash{Keep: []int{1, 2}})
		for range 5 {
			done(t, d.Sync("a"))
		}
		wantShow(t, "P2.4", d, "a=123 b=45 used 5 count 9")
	}
}

func TestCrashKeeps(t *testing.T) {
	for _, c := range []struct {
		keep []int
		want string
	}{
		{nil, "a=12 b= c=78 d= used 4"},
		{[]int{}, "a=12 b= c=78 d= used 4"},
		{[]int{0, 0, 0, 0}, "a=12 b= c=78 d= used 4"},
		{[]int{1}, "a=123 b= c=78 d= used 5"},
		{[]int{2}, "a=1234 b= c=78 d= used 6"},
		{[]int{0, 1}, "a=12 b=5 c=78 d= used 5"},
		{[]int{0, 2}, "a=12 b=56 c=78 d= used 6"},
		{[]int{2, 2, 5, 5}, "a=1234 b=56 c=78 d= used 8"},
		{[]int{-1, 1}, "a=12 b=5 c=78 d= used 5"},
		{[]int{3, 3, 1, 1, 7, 7}, "a=1234 b=56 c=78 d= used 8"},
		{[]int{math.MaxInt, math.MinInt}, "a=1234 b= c=78 d= used 6"},
		{[]int{math.MinInt, math.MaxInt, math.MaxInt, math.MaxInt}, "a=12 b=56 c=78 d= used 6"},
	} {
		d := simdisk.New(100)
		done(t, d.Append("d", nil), d.Append("b", x("56")), d.Append("c", x("78")), d.Sync("c"), d.Append("a", x("12")), d.Sync("a"), d.Append("a", x("34")))
		d.Crash(api.Crash{Keep: c.keep})
		wantShow(t, fmt.Sprint("P2.4: Keep ", c.keep), d, c.want+" count 7")
		d.Crash(api.Crash{})
		wantShow(t, fmt.Sprint("P2.4: all that was left is sure: Keep ", c.keep), d, c.want+" count 7")
	}
}

// TestCrashGoesByList: by the names as they are at the fall.
func TestCrashGoesByList(t *testing.T) {
	d := simdisk.New(100)
	done(t, d.Append("b", x("12")), d.Append("a", x("34")), d.Append("c", x("56")), d.Rename("a", "z"), d.Append("a0", x("78")), d.Remove("c"))
	d.Crash(api.Crash{Keep: []int{0, 1, 2}})
	wantShow(t, "P2.4", d, "a0= b=1 z=34 used 3 count 6")
	simdisk.New(5).Crash(api.Crash{Keep: []int{1, 2}})
}

// TestBehindAFall: what comes behind the bytes that are left isn't sure.
func TestBehindAFall(t *testing.T) {
	d := some(t)
	d.Crash(api.Crash{Keep: []int{0, 1}})
	done(t, d.Append("a", x("67")), d.Append("b", x("8")))
	wantShow(t, "P2.4", d, "a=1267 b=48 used 6 count 6")
	d.Crash(api.Crash{Keep: []int{1}})
	wantShow(t, "P2.4", d, "a=126 b=4 used 4 count 6")
}

func TestExample(t *testing.T) {
	d := simdisk.New(100)
	done(t, d.Append("a", x("xy")), d.Sync("a"), d.Append("a", x("z")))
	d.Crash(api.Crash{})
	wantShow(t, "the example", d, "a=xy used 2 count 3")
}
