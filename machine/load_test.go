package machine_test

import (
	"bytes"
	"errors"
	"math"
	"slices"
	"strings"
	"testing"

	"consistory/api"
	"consistory/machine"
)

const maxUint = "ffffffffffffffffff01"

// TestLoad: P18.3: the machine of which Dump tells just b; each piece of it as it may be, and one past it.
func TestLoad(t *testing.T) {
	if _, ok := holdLoad(t, whole.bytes(t)); !ok {
		t.Fatal("P18.3: the whole is refused")
	}
	for _, c := range []struct{ what, taken, refused string }{
		{"Index", "0b, 7f, 8001, " + maxUint, "0a, 00, 8c00, ff, ffffffffffffffffff02, ffffffffffffffffffff01"},
		{"sessions", "", "06, 08, 00, 8700, " + maxUint},
		{"client 1", "00", "01, 02, 8000, " + maxUint},
		{"client 2", "01", "00, 02, 03, 8100"},
		{"client 5", "04, 07", "03, 08, 09, 00, 8700"},
		{"client 7", "09, 7f, 8001, " + maxUint, "08, 07, 00, 8900, ac8200"},
		{"Seq 1", "00, 01, 8001, " + maxUint, "8000"},
		{"Seq 6", "00, 01", "ffffffffffffffffff02, ffffffffffffffffff7f, ffffffffffffffffff8100"},
		{"Class 1", "00, 01, 02, 07, 08, 14, 35, 3c, 63, 64", "65, 7f, 8000, 8001, 8002, 80808080808080808001, 818080801000, " + maxUint},
		{"Class 7", "64", "65, e400"},
		{"Count 1", "00, 01, 3b, 3c", "3d, 7f, 8000, 8001, 8002, 8080808010, 80808080808080808001, " + maxUint},
		{"Count 7", "3c", "3d, bc00"},
		{"Index 1", "01, 02, 0b, 0c", "00, 0d, 7f, 8001, 8300, " + maxUint},
		{"Index 7", "01, 0c, 0b", "00, 0d"},
		{"tables", "", "00, 01, 03, 06, 07, 8200, " + maxUint},
		{"t", "0161, 0174, 14 6162636465666768696a6162636465666768696a, 02 745f, 02 7439", "00, 0175, 0169, 016a, 0154, 0139, 02 7420, 15 6162636465666768696a6162636465666768696a61, 06 73656c656374, 0100, 01c3, d00f, d10f, 810074"},
		{"columns of t", "", "00, 02, 04, 06, 07, 8300"},
		{"t.a", "0178, 0174, 0175, 0169", "0164, 02 6263, 00, 0141, 15 6162636465666768696a6162636465666768696a61"},
		{"type of t.a", "02", "00, 01, 03, 04, 80, 82, ff"},
		{"type of t.bc", "03", "00, 01, 02, 04, 83"},
		{"NotNull of t.a", "01", "00, 02, 03, 80, 81"},
		{"NotNull of t.bc", "00", "01, 02, 80, 81, ff"},
		{"NotNull of t.d", "00, 01", "02"},
		{"keys of t", "", "00, 03, 05, 8400"},
		{"key 1", "00", "0178, 0100"},
		{"bits of key 1", "01, 03", "00, 02, 04, 07, 80, 83, ff"},
		{"columns of key 1", "", "00, 02, 06, 07, 8100"},
		{"column of key 1", "00, 02", "01, 03, 05, 06, 8000, 8080808010, 80808080808080808001, " + maxUint},
		{"key 2", "00, 0178", "0169, 0174, 0175, 0141"},
		{"bits of key 2", "01", "00, 02, 03, 04, 81"},
		{"column of key 2", "00, 01, 02", "03"},
		{"key 3", "0169, 0161", "00, 016a, 0174, 0175, 02 7820"},
		{"bits of key 3", "00, 01", "02, 03, 04, 05, 80"},
		{"columns of key 3", "", "00, 02, 04, 07, 8300"},
		{"column 2 of key 3", "00", "01, 02, 03, 06, 8000"},
		{"bits of key 4", "00, 01", "02, 03"},
		{"Next of t", "04, 7f, 8001, 808080808080808040", "00, 01, 02, 03, 8400, 818080808080808040, " + maxUint},
		{"rows of t", "", "00, 01, 03, 3c, 3d, 8200"},
		{"Id 1", "01, 02", "00, 03, 04, 8200"},
		{"Id 2", "03", "00, 01, 02, 04, 8300, " + maxUint},
		{"values 1", "", "00, 02, 04, 40, 41, 8300"},
		{"a of row 1", "0200, 027f, 028001, 02 feffffffffffffffff01", "00, 0100, 0101, 0300, 03 0178, 04, 80, 02 80, 02 8000, 02 ffffffffffffffffff02, 02 " + maxUint},
		{"bc of row 1", "00, 03 0141, 03 28" + strings.Repeat("c3a4", 20), "03 00, 0101, 0200, 03 0100, 03 29" + strings.Repeat("78", 41) + ", 8000"},
		{"d of row 1", "01 00", "00, 01 01, 01 02, 01 80, 02 00, 03 00"},
		{"bc of row 2", "00, 03 00, 03 01ff", "03 0100, 03 03 784100, 03 8000"},
		{"u", "0178, 02 7475", "00, 0174, 0169, 016a, 0155"},
		{"keys of u", "", "00, 02"},
		{"bits of u's key", "01", "00, 02, 03"},
		{"column 1 of u's key", "01", "00, 02"},
		{"Next of u", "01, 02, 808080808080808040", "00, 818080808080808040, " + maxUint},
		{"rows of u", "00", "01, 3d, 8000"},
	} {
		for _, list := range []struct {
			hex  string
			want bool
		}{{c.taken, true}, {c.refused, false}} {
			for l := range strings.SplitSeq(list.hex, ", ") {
				if l == "" {
					continue
				}
				b := whole.with(t, c.what, l).bytes(t)
				if _, ok := holdLoad(t, b); ok != list.want {
					t.Errorf("P18.3: %s %s: loaded: %v", c.what, l, ok)
				}
			}
		}
	}
}

// TestPiecesThatGoTogether: P18.3: what may be only if another piece is another one, too.
func TestPiecesThatGoTogether(t *testing.T) {
	for _, c := range []struct {
		pairs string
		want  bool
	}{
		{"bits of key 1: 01; NotNull of t.a: 00", true},
		{"bits of key 1: 03; NotNull of t.a: 00", false},
		{"bits of key 1: 01; key 1: 0178", true},
		{"bits of key 1: 00; key 1: 0178", true},
		{"bits of key 1: 03; key 1: 0178", false},
		{"bits of key 2: 03; bits of key 1: 01", true},
		{"bits of key 2: 03; bits of key 1: 03", false},
		{"bits of u's key: 03; NotNull of u.a: 01", true},
		{"bits of u's key: 03; NotNull of u.b: 00", false},
		{"bits of u's key: 00; key of u: 016b", true},
		{"bits of u's key: 00; key of u: 016a", false},
		{"a of row 1: 00; NotNull of t.a: 00; bits of key 1: 01", true},
		{"a of row 1: 00; NotNull of t.a: 01; bits of key 1: 01", false},
		{"d of row 1: 00; NotNull of t.d: 00", true},
		{"d of row 1: 01 01; bits of key 2: 00; key 2: 016b", true},
		{"d of row 1: 01 01; bits of key 2: 01; key 2: 016b", false},
		{"bc of row 1: 03 00; bits of key 4: 00", true},
		{"bc of row 1: 03 00; bc of row 2: 00", true},
		{"bc of row 1: 00; bc of row 2: 00", true},
		{"Index: 05; Index 2: 01; Index 3: 01; Index 4: 02; Index 7: 05", true},
		{"Index: 05; Index 2: 01; Index 3: 01; Index 4: 02; Index 7: 06", false},
		{"Index: 01; Index 1: 01; Index 2: 01; Index 3: 01; Index 4: 01; Index 5: 01; Index 6: 01; Index 7: 01", true},
		{"Index: 00; Index 1: 00; Index 2: 00; Index 3: 00; Index 4: 00; Index 5: 00; Index 6: 00; Index 7: 00", false},
		{"client 6: feffffffffffffffff01; client 7: " + maxUint, true},
		{"client 6: " + maxUint + "; client 7: " + maxUint, false},
		{"client 6: " + maxUint + "; client 7: 00", false},
		{"client 6: " + maxUint + "; client 7: 08", false},
		{"Id 2: 7f; Next of t: 8001", true},
		{"Id 2: 8001; Next of t: 8001", false},
		{"Id 2: 808080808080808020; Next of t: 808080808080808040", true},
		{"Id 1: ffffffffffffffff1f; Id 2: ffffffffffffffff3f; Next of t: 808080808080808040", true},
	} {
		l := whole
		for p := range strings.SplitSeq(c.pairs, "; ") {
			what, hex, _ := strings.Cut(p, ": ")
			l = l.with(t, what, hex)
		}
		if _, ok := holdLoad(t, l.bytes(t)); ok != c.want {
			t.Errorf("P18.3: %s: loaded: %v", c.pairs, ok)
		}
	}
}

// wide: a table with so many columns, and keys on the first one.
func wide(name string, cols, keys, keyCols, rows int) (api.Table, []api.Row) {
	t := api.Table{Name: name}
	for n := range cols {
		t.Cols = append(t.Cols, api.Column{Name: string(rune('a' + n)), Type: api.Int})
	}
	for k := range keys {
		key := api.Key{Name: name + string(rune('a'+k))}
		for n := range keyCols {
			key.Cols = append(key.Cols, n%max(cols, 1))
		}
		t.Keys = append(t.Keys, key)
	}
	var l []api.Row
	for n := range rows {
		l = append(l, api.Row{Id: uint64(n + 1), Vals: make([]api.Value, cols)})
	}
	return t, l
}

// TestLimits: P18.3: as many tables, columns, keys, columns of a key, rows as may be; and one more.
func TestLimits(t *testing.T) {
	for _, c := range []struct {
		tables, cols, keys, keyCols, rows int
		want                              bool
	}{
		{0, 0, 0, 0, 0, true}, {1, 1, 0, 0, 0, true}, {6, 1, 0, 0, 0, true}, {7, 1, 0, 0, 0, false},
		{1, 0, 0, 0, 0, false}, {1, 6, 0, 0, 0, true}, {1, 7, 0, 0, 0, false}, {6, 6, 4, 6, 60, true},
		{1, 2, 4, 1, 0, true}, {1, 2, 5, 1, 0, false}, {1, 2, 1, 0, 0, false}, {1, 2, 1, 2, 0, true}, {1, 2, 1, 3, 0, false}, {1, 6, 1, 6, 0, true}, {1, 6, 1, 7, 0, false}, {1, 7, 1, 7, 0, false},
		{1, 1, 0, 0, 60, true}, {1, 1, 0, 0, 61, false}, {2, 1, 0, 0, 61, false}, {1, 1, 0, 0, 200, false}, {300, 1, 0, 0, 0, false},
	} {
		x := parts{Index: 3}
		for n := range c.tables {
			table, rows := wide(string(rune('a'+n%26))+string(rune('a'+n/26)), c.cols, c.keys, c.keyCols, c.rows)
			x.Schema.Tables = append(x.Schema.Tables, table)
			x.Data.Rows = append(x.Data.Rows, rows)
			x.Data.Next = append(x.Data.Next, uint64(c.rows+1))
		}
		if _, ok := holdLoad(t, x.dump()); ok != c.want {
			t.Errorf("P18.3: %+v: loaded: %v", c, ok)
		}
	}
}

// TestManySessions: P18.3: of sessions there may be any number.
func TestManySessions(t *testing.T) {
	for _, n := range []uint64{1, 8, 9, 127, 128, 5000} {
		x := parts{Index: 1}
		for i := range n {
			x.Sessions = append(x.Sessions, part{i * i, n - i, i % 101, i % 61, 1})
		}
		if p, ok := holdLoad(t, x.dump()); !ok {
			t.Errorf("P18.3: %d sessions are refused", n)
		} else if seq, ok := p.m.Seen(0); seq != n || !ok {
			t.Errorf("P18.2: Seen %d, %v", seq, ok)
		}
	}
}

// TestCutAndMore: P18.3: bytes that end within, or go on, are no machine's.
func TestCutAndMore(t *testing.T) {
	for _, b := range [][]byte{whole.bytes(t), fresh().m.Dump(), fullMachine(t).m.Dump()} {
		for n := range b {
			if n > 700 && n%97 > 0 {
				continue
			}
			if _, ok := holdLoad(t, b[:n]); ok {
				t.Errorf("P18.3: cut at %d: loaded", n)
			}
		}
		for _, more := range []byte{0, 1, 0x80, 0xff} {
			if _, ok := holdLoad(t, append(bytes.Clone(b), more)); ok {
				t.Errorf("P18.3: with %x behind: loaded", more)
			}
		}
		if _, ok := holdLoad(t, slices.Concat(b, b)); ok {
			t.Error("P18.3: twice: loaded")
		}
	}
	if loaded(t, nil) != nil || loaded(t, []byte{}) != nil {
		t.Error("P18.3: of no bytes: loaded")
	}
}

// TestEachByte: P18.3: each byte of a dump as any other one: what is loaded tells just these bytes; and with one too many, or one left out.
func TestEachByte(t *testing.T) {
	b := whole.bytes(t)
	taken := 0
	for n := range b {
		for x := range 256 {
			c := bytes.Clone(b)
			c[n] = byte(x)
			if _, ok := holdLoad(t, c); ok && c[n] != b[n] {
				taken++
			}
			holdLoad(t, slices.Insert(bytes.Clone(b), n, byte(x)))
		}
		holdLoad(t, slices.Delete(bytes.Clone(b), n, n+1))
		if b[n] < 0x80 {
			long := slices.Insert(bytes.Clone(b), n+1, 0)
			long[n] |= 0x80
			holdLoad(t, long)
		}
	}
	if taken < 1000 {
		t.Errorf("too little is tried: %d", taken)
	}
}

// TestWhatIsLoaded: P18.3: what the machine tells, not its Dump alone.
func TestWhatIsLoaded(t *testing.T) {
	m := loaded(t, whole.bytes(t))
	if m.Index() != 12 {
		t.Errorf("P18.3: Index %d", m.Index())
	}
	if s := stateOf(m).say(); s != "t: 2 (64, NULL, FALSE), 3 (-9223372036854775808, '', TRUE), next 4; u: next 1" {
		t.Errorf("P18.3: %s", s)
	}
	for client, want := range map[uint64]uint64{0: 0, 1: 2, 2: 1, 3: 1, 7: 128, 8: math.MaxUint64, 300: 6} {
		if seq, ok := m.Seen(client); seq != want || !ok {
			t.Errorf("P18.2: Seen(%d): %d, %v", client, seq, ok)
		}
	}
	if _, ok := m.Seen(4); ok {
		t.Error("P18.2: client 4 is seen")
	}
	for _, c := range []struct {
		client, seq uint64
		want        string
	}{
		{0, 0, "0 at 3"}, {1, 2, "2: class 20 at 11"}, {1, 1, "1: class 53 at 15"}, {300, 6, "6: 2 at 7"}, {8, math.MaxUint64, "18446744073709551615: 0 at 5"}, {3, 1, "1: 1 at 10"}, {4, 0, "class 3 at 19"},
	} {
		if r := m.Apply(command(c.client, c.seq, "DROP TABLE z")); say(r) != c.want {
			t.Errorf("P18.4: %d %d: %s, want %s", c.client, c.seq, say(r), c.want)
		}
	}
}

// TestAnyReply: P18.3: sessions' Seqs, Classes and Counts that no command is answered are as they are told.
func TestAnyReply(t *testing.T) {
	x := parts{Index: 9, Sessions: []part{{1, 5, 100, 60, 9}, {2, math.MaxUint64, 53, 7, 1}, {3, 0, 99, 0, 9}}}
	p, ok := holdLoad(t, x.dump())
	if !ok {
		t.Fatal("P18.3: refused")
	}
	for _, c := range []struct {
		client uint64
		want   api.Reply
	}{
		{1, api.Reply{Seq: 5, Class: 100, Answer: api.Answer{Count: 60}, Index: 9}},
		{2, api.Reply{Seq: math.MaxUint64, Class: 53, Answer: api.Answer{Count: 7}, Index: 1}},
		{3, api.Reply{Class: 99, Index: 9}},
	} {
		if r := p.apply(t, command(c.client, c.want.Seq, "foo")); !equal(r, c.want) {
			t.Errorf("P18.1: %+v, want %+v", r, c.want)
		}
	}
}

// TestFaultsArePlaced: an error tells at which byte what is wrong begins, or what table told.
func TestFaultsArePlaced(t *testing.T) {
	for _, c := range []struct{ what, hex string }{
		{"Index", "ff8000"}, {"client 3", "01"}, {"client 5", "8700"}, {"Class 2", "65"}, {"Count 3", "3d"}, {"Index 2", "0d"}, {"tables", "07"},
		{"t", "d10f"}, {"type of t.a", "04"}, {"NotNull of t.d", "02"}, {"bits of key 1", "02"}, {"bits of key 3", "04"}, {"columns of key 3", "07"}, {"column 2 of key 3", "06"},
		{"Next of t", "8400"}, {"rows of t", "3d"}, {"values 2", "41"},
	} {
		at := 0
		for _, p := range whole {
			if p.what == c.what {
				break
			}
			at += len((pieces{p}).bytes(t))
		}
		_, err := machine.Load(whole.with(t, c.what, c.hex).bytes(t))
		var p *api.Placed
		if !errors.As(err, &p) || p.At != at {
			t.Errorf("%s %s: %v, want byte %d", c.what, c.hex, err, at)
		}
	}
	_, err := machine.Load(whole.with(t, "u", "0174").bytes(t))
	var w *api.Within
	if !errors.As(err, &w) || w.Part != "tables" {
		t.Errorf("two tables of one name: %v", err)
	}
	b := whole.bytes(t)
	_, err = machine.Load(append(b, 0))
	var p *api.Placed
	if !errors.As(err, &p) || p.At != len(b) {
		t.Errorf("a byte too many: %v", err)
	}
}
