package simdisk_test

import (
	"errors"
	"fmt"
	"math"
	"slices"
	"strings"
	"testing"

	"consistory/api"
	"consistory/simdisk"
)

func TestNewIsEmpty(t *testing.T) {
	for _, room := range []int{math.MinInt, -1, 0, 1, 100, math.MaxInt} {
		d := simdisk.New(room)
		if len(d.List()) != 0 || d.Used() != 0 || d.Count() != 0 {
			t.Errorf("P2.1: New(%d): %v, %d, %d", room, d.List(), d.Used(), d.Count())
		}
		_, err := d.Read("a")
		want(t, "P2.1: Read of an empty disk", err, api.ErrFile)
	}
}

func TestRoom(t *testing.T) {
	for _, room := range []int{math.MinInt, -1, 0} {
		d := simdisk.New(room)
		want(t, "P2.1: a byte without room", d.Append("a", x("x")), api.ErrFull)
		want(t, "P2.1: no byte without room", d.Append("a", nil), 0)
		wantShow(t, "P2.1", d, "a= used 0 count 1")
	}
	d := simdisk.New(10)
	done(t, d.Append("a", x("12345")), d.Append("b", x("6789")))
	want(t, "P2.2: one past room, in a file", d.Append("a", x("01")), api.ErrFull)
	want(t, "P2.2: one past room, in a new file", d.Append("c", x("01")), api.ErrFull)
	wantShow(t, "P2.2: refused", d, "a=12345 b=6789 used 9 count 2")
	want(t, "P2.2: just room", d.Append("c", x("0")), 0)
	want(t, "P2.2: full", d.Append("a", x("x")), api.ErrFull)
	want(t, "P2.2: nothing on a full disk", d.Append("a", nil), 0)
	want(t, "P2.2: an empty file on a full disk", d.Append("d", []byte{}), 0)
	wantShow(t, "P2.2", d, "a=12345 b=6789 c=0 d= used 10 count 5")
}

func TestRoomComesBack(t *testing.T) {
	d := simdisk.New(6)
	done(t, d.Append("a", x("123")), d.Append("b", x("456")))
	done(t, d.Truncate("a", 1), d.Append("c", x("78")))
	want(t, "P2.2: full", d.Append("c", x("9")), api.ErrFull)
	done(t, d.Remove("b"), d.Append("c", x("901")))
	want(t, "P2.2: full", d.Append("c", x("9")), api.ErrFull)
	done(t, d.Rename("a", "c"), d.Append("d", x("12345")))
	want(t, "P2.2: full", d.Append("c", x("9")), api.ErrFull)
	d.Crash(api.Crash{})
	done(t, d.Append("a", x("123456")))
	wantShow(t, "P2.2", d, "a=123456 c= d= used 6 count 9")
}

func TestNames(t *testing.T) {
	for c := range 256 {
		may := strings.IndexByte("abcdefghijklmnopqrstuvwxyz0123456789.-_", byte(c)) >= 0
		for _, name := range []string{string([]byte{byte(c)}), "a" + string([]byte{byte(c)}), string([]byte{byte(c)}) + "a"} {
			checkName(t, name, may)
		}
	}
	long := strings.Repeat("n", 39)
	for name, may := range map[string]bool{
		"": false, long: true, long + ".": true, long + "nn": false, strings.Repeat("-", 1000): false,
		long + "N": false, "..": true, "\u00e9": false, "a b": false, "a/b": false, "a\n": false,
	} {
		checkName(t, name, may)
	}
}

// checkName holds all calls at a name that may be, or not.
func checkName(t *testing.T, name string, may bool) {
	t.Helper()
	d := simdisk.New(10)
	done(t, d.Append("other", x("o")))
	made := api.Class(0)
	if !may {
		made = api.ErrForm
	}
	_, err := d.Read(name)
	want(t, fmt.Sprintf("P2.2: Read(%q)", name), err, api.ErrFile)
	want(t, fmt.Sprintf("P2.2: Sync(%q)", name), d.Sync(name), api.ErrFile)
	want(t, fmt.Sprintf("P2.2: Truncate(%q)", name), d.Truncate(name, 0), api.ErrFile)
	want(t, fmt.Sprintf("P2.2: Remove(%q)", name), d.Remove(name), api.ErrFile)
	want(t, fmt.Sprintf("P2.2: Rename from %q", name), d.Rename(name, "other"), api.ErrFile)
	want(t, fmt.Sprintf("P2.1: Append(%q)", name), d.Append(name, nil), made)
	want(t, fmt.Sprintf("P2.1: Rename to %q", name), d.Rename("other", name), made)
	left := []string{"other"}
	if may {
		left[0] = name
	}
	if !slices.Equal(d.List(), left) {
		t.Errorf("P2.1: %q: %q", name, d.List())
	}
}

func TestListRises(t *testing.T) {
	names := []string{"b", "a", "ab", "a-", "a.", "a0", "_", "z", ".", "-", "9", "0", "a_b", "aa", strings.Repeat("a", 40)}
	d := simdisk.New(100)
	for _, name := range names {
		done(t, d.Append(name, x("x")))
	}
	right := []string{"-", ".", "0", "9", "_", "a", "a-", "a.", "a0", "a_b", "aa", strings.Repeat("a", 40), "ab", "b", "z"}
	if !slices.Equal(d.List(), right) || d.Used() != len(names) {
		t.Errorf("P2.1: %q, %d", d.List(), d.Used())
	}
}

func TestAppendGoesBehind(t *testing.T) {
	d := simdisk.New(100)
	done(t, d.Append("a", x("xy")), d.Append("b", nil), d.Append("a", x("\x00\xff")), d.Append("a", nil), d.Append("b", x("q")))
	wantShow(t, "P2.2", d, "a=xy\x00\xff b=q used 5 count 5")
}

func TestFileLimit(t *testing.T) {
	d := simdisk.New(4 * api.MaxFile)
	done(t, d.Append("a", zeros(api.MaxFile-1)))
	want(t, "P2.2: two past MaxFile-1", d.Append("a", x("12")), api.ErrFull)
	want(t, "P2.2: a new file of MaxFile+1", d.Append("b", zeros(api.MaxFile+1)), api.ErrFull)
	want(t, "P2.2: just MaxFile", d.Append("a", x("1")), 0)
	want(t, "P2.2: past MaxFile", d.Append("a", x("2")), api.ErrFull)
	want(t, "P2.2: nothing behind MaxFile", d.Append("a", nil), 0)
	want(t, "P2.2: a new file of MaxFile", d.Append("b", zeros(api.MaxFile)), 0)
	done(t, d.Truncate("a", 5))
	want(t, "P2.2: MaxFile again", d.Append("a", zeros(api.MaxFile-5)), 0)
	if d.Used() != 2*api.MaxFile || d.Count() != 6 {
		t.Errorf("P2.2: used %d, count %d", d.Used(), d.Count())
	}
}

func TestFilesLimit(t *testing.T) {
	d := simdisk.New(100)
	for i := range api.MaxFiles {
		done(t, d.Append(fmt.Sprint("f", i), nil))
	}
	want(t, "P2.2: past MaxFiles", d.Append("g", nil), api.ErrFull)
	want(t, "P2.2: a name that may not be, past MaxFiles", d.Append("G", nil), api.ErrForm)
	want(t, "P2.2: a file that is there", d.Append("f7", x("x")), 0)
	want(t, "P2.2: another name", d.Rename("f0", "g"), 0)
	want(t, "P2.2: past MaxFiles", d.Append("f0", nil), api.ErrFull)
	done(t, d.Rename("g", "f1"))
	want(t, "P2.2: MaxFiles again", d.Append("f0", nil), 0)
	done(t, d.Remove("f1"))
	want(t, "P2.2: MaxFiles again", d.Append("h", nil), 0)
	want(t, "P2.2: past MaxFiles", d.Append("f1", nil), api.ErrFull)
	if len(d.List()) != api.MaxFiles {
		t.Errorf("P2.2: %q", d.List())
	}
}

func TestSync(t *testing.T) {
	d := simdisk.New(100)
	done(t, d.Append("a", x("12")), d.Append("b", x("34")), d.Sync("a"), d.Sync("a"), d.Append("a", x("5")))
	want(t, "P2.2: no such file", d.Sync("c"), api.ErrFile)
	wantShow(t, "P2.2", d, "a=125 b=34 used 5 count 5")
	d.Crash(api.Crash{})
	wantShow(t, "P2.2: sure", d, "a=12 b= used 2 count 5")
}

func TestTruncate(t *testing.T) {
	for _, c := range []struct {
		n    int
		want api.Class
		left string
		sure string
	}{
		{0, 0, "", ""}, {1, 0, "1", "1"}, {3, 0, "123", "123"}, {4, 0, "1234", "123"}, {5, 0, "12345", "123"},
		{6, api.ErrPlace, "12345", "123"}, {-1, api.ErrPlace, "12345", "123"},
		{math.MinInt, api.ErrPlace, "12345", "123"}, {math.MaxInt, api.ErrPlace, "12345", "123"},
	} {
		d := simdisk.New(100)
		done(t, d.Append("a", x("123")), d.Sync("a"), d.Append("a", x("45")))
		want(t, fmt.Sprint("P2.2: Truncate to ", c.n), d.Truncate("a", c.n), c.want)
		count := 3
		if c.want == 0 {
			count = 4
		}
		wantShow(t, "P2.2: Truncate", d, fmt.Sprintf("a=%s used %d count %d", c.left, len(c.left), count))
		done(t, d.Append("a", x("+")))
		wantShow(t, "P2.2: behind a Truncate", d, fmt.Sprintf("a=%s+ used %d count %d", c.left, len(c.left)+1, count+1))
		if got := sureOf(t, d, "a"); got != c.sure {
			t.Errorf("P2.2: Truncate to %d: %q is sure, want %q", c.n, got, c.sure)
		}
	}
	want(t, "P2.2: no such file, no such place", simdisk.New(9).Truncate("a", -1), api.ErrFile)
}

func TestRename(t *testing.T) {
	d := simdisk.New(100)
	done(t, d.Append("a", x("12")), d.Sync("a"), d.Append("a", x("3")), d.Append("b", x("4567")), d.Sync("b"))
	want(t, "P2.2: a name that may not be, of no file", d.Rename("q", "Q"), api.ErrForm)
	want(t, "P2.2: two names that may not be", d.Rename("", ""), api.ErrForm)
	want(t, "P2.2: a name that may not be", d.Rename("a", ""), api.ErrForm)
	want(t, "P2.2: no such file", d.Rename("q", "a"), api.ErrFile)
	want(t, "P2.2: no such file, the same name", d.Rename("q", "q"), api.ErrFile)
	wantShow(t, "P2.2: refused", d, "a=123 b=4567 used 7 count 5")
	done(t, d.Rename("a", "a"))
	wantShow(t, "P2.2: the same name", d, "a=123 b=4567 used 7 count 6")
	done(t, d.Rename("a", "b"))
	wantShow(t, "P2.2: one that is gone", d, "b=123 used 3 count 7")
	done(t, d.Rename("b", "c"), d.Append("b", x("8")))
	wantShow(t, "P2.2: a new name", d, "b=8 c=123 used 4 count 9")
	d.Crash(api.Crash{})
	wantShow(t, "P2.2: sure with its file", d, "b= c=12 used 2 count 9")
}

// TestSameNameStaysUnsure: a Rename makes the name sure, not the bytes.
func TestSameNameStaysUnsure(t *testing.T) {
	d := simdisk.New(100)
	done(t, d.Append("a", x("12")), d.Sync("a"), d.Append("a", x("3")), d.Rename("a", "a"))
	if got := sureOf(t, d, "a"); got != "12" {
		t.Errorf("P2.2: %q", got)
	}
}

func TestRemove(t *testing.T) {
	d := simdisk.New(100)
	done(t, d.Append("a", x("12")), d.Sync("a"), d.Append("b", x("3")), d.Remove("a"))
	want(t, "P2.2: gone already", d.Remove("a"), api.ErrFile)
	_, err := d.Read("a")
	want(t, "P2.2: gone", err, api.ErrFile)
	wantShow(t, "P2.2", d, "b=3 used 1 count 4")
	d.Crash(api.Crash{Keep: []int{9, 9}})
	wantShow(t, "P2.2: gone for good", d, "b=3 used 1 count 4")
	done(t, d.Append("a", x("45")))
	if got := sureOf(t, d, "a"); got != "" {
		t.Errorf("P2.2: a new file has %q that is sure", got)
	}
}

// TestErrorsTellTheFile: of a Rename the one that is at fault.
func TestErrorsTellTheFile(t *testing.T) {
	d := simdisk.New(3)
	done(t, d.Append("a", x("123")))
	_, read := d.Read("r")
	for _, c := range []struct {
		err  error
		part string
	}{
		{read, "r"}, {d.Append("b", x("x")), "b"}, {d.Append("B", nil), "B"}, {d.Sync("c"), "c"}, {d.Truncate("d", 0), "d"},
		{d.Truncate("a", 4), "a"}, {d.Rename("e", "f"), "e"}, {d.Rename("a", "F"), "F"}, {d.Rename("e", "F"), "F"}, {d.Remove("g"), "g"},
	} {
		var w *api.Within
		if !errors.As(c.err, &w) || w.Part != c.part {
			t.Errorf("%v: want the file %s", c.err, c.part)
		}
	}
	d.Halt(0)
	var w *api.Within
	if err := d.Sync("a"); !errors.As(err, &w) || w.Part != "a" {
		t.Errorf("%v: want the file a", err)
	}
}

func TestErrorsComeAlone(t *testing.T) {
	d := simdisk.New(9)
	done(t, d.Append("a", x("12")))
	if b, err := d.Read("b"); len(b) != 0 || err == nil {
		t.Errorf("rule 4: %q, %v", b, err)
	}
	d.Halt(0)
	d.Sync("a")
	if b, err := d.Read("a"); len(b) != 0 || err == nil {
		t.Errorf("rule 4: %q, %v", b, err)
	}
}

// TestMemory: a disk shares none with what is handed in or answered.
func TestMemory(t *testing.T) {
	d := simdisk.New(1000)
	in := []byte("abc....")
	done(t, d.Append("f", in[:3]), d.Append("g", nil))
	if string(in) != "abc...." {
		t.Errorf("rule 3: %q", in)
	}
	copy(in, "ZZZZZZZ")
	done(t, d.Append("f", x("d")))
	first, _ := d.Read("f")
	second, _ := d.Read("f")
	for i := range first[:cap(first)] {
		first[:cap(first)][i] = '!'
	}
	done(t, d.Append("f", x("e")), d.Truncate("f", 2), d.Append("f", x("XYZ")))
	if string(second) != "abcd" {
		t.Errorf("rule 3: an answer became %q", second)
	}
	l := d.List()
	l[0] = "q"
	_ = append(l[:1], "r")
	wantShow(t, "rule 3", d, "f=abXYZ g= used 5 count 6")
	k := []int{1, 1, 1}
	d.Crash(api.Crash{Keep: k[:2]})
	if !slices.Equal(k, []int{1, 1, 1}) {
		t.Errorf("rule 3: Keep became %v", k)
	}
}

// TestDisksAreApart: what one is told, another doesn't tell.
func TestDisksAreApart(t *testing.T) {
	d, e := simdisk.New(10), simdisk.New(10)
	done(t, d.Append("a", x("1")))
	d.Halt(0)
	d.Sync("a")
	wantShow(t, "rule 6", e, "used 0 count 0")
	done(t, e.Append("a", x("2")))
	d.Crash(api.Crash{})
	wantShow(t, "rule 6", e, "a=2 used 1 count 1")
}

// TestZeroDisk: one that New didn't make takes all calls, too.
func TestZeroDisk(t *testing.T) {
	var d simdisk.Disk
	want(t, "a byte", d.Append("a", x("x")), api.ErrFull)
	want(t, "no byte", d.Append("a", nil), 0)
	d.Crash(api.Crash{})
	want(t, "Remove", d.Remove("a"), 0)
	wantShow(t, "the zero Disk", &d, "used 0 count 2")
}
