package wal_test

import (
	"slices"
	"testing"

	"consistory/api"
	"consistory/simdisk"
	"consistory/wal"
	"consistory/wire"
)

// written: the bytes of a log, and what it told from its beginning on.
func written(t *testing.T) ([]byte, []string) {
	t.Helper()
	d := simdisk.New(room)
	if may, erred := runScript(t, d); erred {
		t.Fatal(may)
	}
	b, err := d.Read("wal")
	done(t, err)
	all := []string{empty}
	for _, c := range script() {
		all = append(all, c.then...)
	}
	return b, all
}

// onDisk: a disk whose log has the bytes b.
func onDisk(t *testing.T, b []byte) *simdisk.Disk {
	t.Helper()
	d := simdisk.New(1 << 20)
	done(t, d.Append("wal", b))
	return d
}

// checkUse: the wal of d goes on as ever.
func checkUse(t *testing.T, d *simdisk.Disk) {
	t.Helper()
	w := open(t, d)
	told := show(w)
	done(t, w.Append(one(5, "more")), w.Sync())
	wantSure(t, "behind damage", d, told+" more@5")
}

// TestEveryBeginning: a log that ends anywhere tells a first part, whole.
func TestEveryBeginning(t *testing.T) {
	b, all := written(t)
	last := 0
	for n := range len(b) + 1 {
		d := onDisk(t, b[:n])
		more := slices.Index(all[last:], show(open(t, d)))
		if more < 0 {
			t.Fatalf("P3.3: %d bytes: %q", n, show(open(t, d)))
		}
		last += more
		checkUse(t, d)
	}
	if last != len(all)-1 {
		t.Errorf("P3.3: %q is told last", all[last])
	}
}

// TestEveryBit: a log that was changed tells what is ahead of the change, and goes on.
func TestEveryBit(t *testing.T) {
	b, all := written(t)
	for i := range 8 * len(b) {
		b[i/8] ^= 1 << (i % 8)
		d := onDisk(t, b)
		if got := show(open(t, d)); !slices.Contains(all, got) {
			t.Fatalf("P40.6: bit %d: %q", i, got)
		}
		checkUse(t, d)
		b[i/8] ^= 1 << (i % 8)
	}
}

// TestRecordsThatMayNotBe: frames that are whole, with what no wal writes.
func TestRecordsThatMayNotBe(t *testing.T) {
	b, all := written(t)
	told := all[len(all)-1] // base 9, no entries
	number := func(kind byte, l ...uint64) []byte {
		p := []byte{kind}
		for _, n := range l {
			p = append(p, wire.PutUint(n)...)
		}
		return p
	}
	for _, p := range [][]byte{
		{}, {0}, {5}, {255}, {1}, {2}, {3}, {4}, {1, 1}, {2, 9}, {1, 0x80}, {2, 1, 0x80}, {3, 0x80, 0},
		number(1, 1, 1002), number(1, 1, 1<<63), number(1, 1, 1, 1), number(2, 9, 8), number(2, 9, 1<<62+1), number(2, 9, 9, 9),
		number(3, 9), number(3, 11), number(3, 10, 0), number(4, 1, 2), number(4, 1, 0, 0), number(4, 1, 1, 1, 1),
	} {
		f, err := wire.Frame(p)
		done(t, err)
		d := onDisk(t, append(b[:len(b):len(b)], f...))
		wantShow(t, "P40.6", open(t, d), told)
		checkUse(t, d)
		good, err := wire.Frame(number(1, 77, 7))
		done(t, err)
		d = onDisk(t, slices.Concat(b, f, good, good))
		wantShow(t, "P40.6: what is behind it", open(t, d), told)
		checkUse(t, d)
	}
}

// TestStrays: files of the wal's that a fall left, or others with such a name, are neither read nor kept.
func TestStrays(t *testing.T) {
	b, all := written(t)
	for _, name := range []string{"wal.new", "wal0", "wally", "wal-", "wal.", "wal_1"} {
		d := onDisk(t, b)
		done(t, d.Append(name, b[:40]), d.Append("other", b))
		wantShow(t, "P3.1", open(t, d), all[len(all)-1])
		if l := d.List(); !slices.Equal(l, []string{"other", "wal"}) {
			t.Errorf("%s: %q stay", name, l)
		}
		done(t, d.Append(name, b))
		d.Halt(0)
		_, err := wal.Open(d)
		want(t, "P3.1: the power goes", err, api.ErrDown)
	}
	d := simdisk.New(room)
	done(t, d.Append("wal.new", b))
	wantShow(t, "P3.1: no log yet", open(t, d), empty)
}

// TestTornEndAndPower: the power goes while a torn end is taken away.
func TestTornEndAndPower(t *testing.T) {
	b, all := written(t)
	for n := range 3 {
		d := onDisk(t, b[:len(b)-1])
		done(t, d.Sync("wal"))
		d.Halt(n)
		_, err := wal.Open(d)
		if n < 2 {
			want(t, "P3.1", err, api.ErrDown)
		} else {
			done(t, err)
		}
		wantSure(t, "P3.1", d, all[len(all)-2])
	}
}

// FuzzOpen: whatever bytes a log has, it is opened, tells something, and goes on.
func FuzzOpen(f *testing.F) {
	f.Add([]byte("\x03\x00\x00\x00\x01\x05\x01"))
	f.Fuzz(func(t *testing.T, b []byte) {
		if len(b) > 1<<19 {
			return
		}
		checkUse(t, onDisk(t, b))
	})
}
