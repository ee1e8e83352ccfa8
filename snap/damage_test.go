package snap_test

import (
	"bytes"
	"slices"
	"testing"

	"consistory/api"
	"consistory/simdisk"
	"consistory/snap"
	"consistory/wire"
)

// onDisk: a disk with one file.
func onDisk(t *testing.T, name string, b []byte) *simdisk.Disk {
	t.Helper()
	d := simdisk.New(1 << 20)
	done(t, d.Append(name, b))
	return d
}

// checkUse: a disk on which something is no snapshot takes one.
func checkUse(t *testing.T, d *simdisk.Disk) {
	t.Helper()
	next := of(1<<63, 1, "next")
	want(t, "P4.1: Save behind damage", snap.Save(d, next), 0)
	wantSure(t, "P4.1: behind damage", d, write(next, true))
}

// TestEveryBeginning: a file that ends too early is no snapshot, and no error.
func TestEveryBeginning(t *testing.T) {
	name, b := bytesOf(t, of(300, 2, "all these bytes"))
	for n := range b {
		d := onDisk(t, name, b[:n])
		wantLoad(t, "P4.1: a beginning", d, none)
		checkUse(t, d)
	}
	wantLoad(t, "P4.1: all of it", onDisk(t, name, b), `300/2 "all these bytes"`)
}

// TestEveryBit: a file that was changed is no snapshot.
func TestEveryBit(t *testing.T) {
	name, b := bytesOf(t, of(300, 2, "all these bytes"))
	for i := range 8 * len(b) {
		b[i/8] ^= 1 << (i % 8)
		d := onDisk(t, name, b)
		wantLoad(t, "P4.1: a bit", d, none)
		checkUse(t, d)
		b[i/8] ^= 1 << (i % 8)
	}
}

// TestFilesThatAreNone: frames that are whole, with what no Save writes.
func TestFilesThatAreNone(t *testing.T) {
	name, _ := bytesOf(t, of(1, 1, ""))
	long := append(wire.PutUint(9), wire.PutUint(9)...)
	for _, p := range [][]byte{
		{}, {1}, {0x80}, {1, 0x80}, {0x80, 0, 1}, {1, 0x80, 0}, slices.Repeat([]byte{0xff}, 30), append([]byte{1}, slices.Repeat([]byte{0xff}, 30)...),
		append(long, make([]byte, most+1)...), make([]byte, api.MaxFrame),
	} {
		f, err := wire.Frame(p)
		done(t, err)
		d := onDisk(t, name, f)
		wantLoad(t, "P4.1: no snapshot", d, none)
		checkUse(t, d)
	}
}

// TestBehindASnapshot: it is whole, whatever stands behind it.
func TestBehindASnapshot(t *testing.T) {
	name, b := bytesOf(t, of(3, 2, "three"))
	d := onDisk(t, name, append(b, "more"...))
	wantLoad(t, "P4.1", d, `3/2 "three"`)
	checkUse(t, d)
}

// TestStrays: other files with snap's names tell nothing, stand in no way, and go.
func TestStrays(t *testing.T) {
	own, b := bytesOf(t, of(3, 2, "three"))
	for _, name := range []string{"snap.new", "snap0", "snapshot", "snap-", "snap.", "snap_1", "snap.new.new"} {
		for _, data := range [][]byte{nil, []byte("x"), b[:9]} {
			d := onDisk(t, name, data)
			wantLoad(t, "P4.1: a stray alone", d, none)
			checkUse(t, d)
			d = onDisk(t, own, b)
			done(t, d.Append(name, data), d.Append("other", data))
			wantLoad(t, "P4.1: a stray beside it", d, `3/2 "three"`)
			checkUse(t, d)
			if l := d.List(); !slices.Equal(l, []string{"other", own}) {
				t.Errorf("%s: %q stay", name, l)
			}
		}
	}
}

// TestStraysAndPower: the power goes while they are taken away.
func TestStraysAndPower(t *testing.T) {
	own, b := bytesOf(t, of(3, 2, "three"))
	for n := range 8 {
		d := onDisk(t, own, b)
		done(t, d.Sync(own), d.Append("snap-1", b), d.Append("snap.new", b[:7]), d.Append("snapper", b[:8]))
		d.Halt(n)
		err := snap.Save(d, of(4, 2, "four"))
		right := `3/2 "three"`
		if err == nil {
			right = `4/2 "four"`
		} else {
			want(t, "P4.2", err, api.ErrDown)
		}
		wantSure(t, "P4.2", d, right)
	}
}

// TestFullOfStrays: as many files as there may be, all of them snap's: they give way.
func TestFullOfStrays(t *testing.T) {
	d := simdisk.New(640)
	for i := range api.MaxFiles {
		done(t, d.Append("snap-"+string(rune('0'+i/10))+string(rune('0'+i%10)), make([]byte, 10)))
	}
	wantLoad(t, "P4.1", d, none)
	checkUse(t, d)
}

// TestDamagedGivesWay: what is no snapshot takes no room from one.
func TestDamagedGivesWay(t *testing.T) {
	s := api.Snapshot{Index: 1, Data: pattern(100)}
	name, b := bytesOf(t, s)
	d := simdisk.New(len(b) + 5)
	done(t, d.Append(name, b[:len(b)-1]))
	want(t, "P4.1", snap.Save(d, s), 0)
	wantSure(t, "P4.1", d, write(s, true))
}

// TestOlderMakesSure: a Save of an older one ends well only with the newer one sure.
func TestOlderMakesSure(t *testing.T) {
	name, b := bytesOf(t, of(3, 2, "three"))
	d := onDisk(t, name, b)
	done(t, snap.Save(d, of(2, 2, "two")))
	wantSure(t, "P4.1", d, `3/2 "three"`)
}

// FuzzLoad: whatever bytes a file has, Load tells a snapshot or none, and Save goes on.
func FuzzLoad(f *testing.F) {
	f.Add([]byte("\x02\x00\x00\x00\x01\x05"))
	f.Fuzz(func(t *testing.T, b []byte) {
		if len(b) > 1<<19 {
			return
		}
		name, _ := bytesOf(t, of(1, 1, ""))
		d := onDisk(t, name, b)
		s, ok, err := snap.Load(d)
		done(t, err)
		if ok {
			if _, again := bytesOf(t, s); !bytes.HasPrefix(b, again) {
				t.Errorf("%x was never saved", b)
			}
		}
		if s.Index <= 1<<63 {
			checkUse(t, d)
		}
	})
}
