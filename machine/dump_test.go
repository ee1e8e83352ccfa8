package machine_test

import (
	"bytes"
	"encoding/hex"
	"math"
	"strings"
	"testing"

	"consistory/api"
	"consistory/machine"
)

// piece: bytes of a dump, and what they are.
type piece struct{ what, hex string }

// pieces: a dump, piece by piece.
type pieces []piece

func (l pieces) bytes(t *testing.T) []byte {
	t.Helper()
	var out []byte
	for _, p := range l {
		b, err := hex.DecodeString(strings.ReplaceAll(p.hex, " ", ""))
		if err != nil {
			t.Fatal(err)
		}
		out = append(out, b...)
	}
	return out
}

// with tells l with other bytes for the piece that is called so.
func (l pieces) with(t *testing.T, what, hex string) pieces {
	t.Helper()
	var out pieces
	n := 0
	for _, p := range l {
		if p.what == what {
			p.hex = hex
			n++
		}
		out = append(out, p)
	}
	if n != 1 {
		t.Fatalf("%d pieces are called %q", n, what)
	}
	return out
}

// wholeSteps, and the dump of a machine that has applied them.
var wholeSteps = []api.Entry{
	{},
	command(300, 5, "CREATE TABLE t (a INT PRIMARY KEY, bc TEXT, d BOOL NOT NULL UNIQUE)"),
	command(0, 0, "CREATE TABLE u (a INT, b INT NOT NULL, UNIQUE (b, a))"),
	command(7, 128, "CREATE INDEX i ON t (d, a, bc)"),
	command(8, math.MaxUint64, "CREATE UNIQUE INDEX j ON t (bc)"),
	command(8, 1, "DROP INDEX j"),
	command(300, 6, "INSERT INTO t VALUES (-1, 'xy', TRUE), (64, NULL, FALSE)"),
	command(1, 1, "INSERT INTO t VALUES (64, 'z', TRUE)"),
	command(2, 1, "DELETE FROM t WHERE a < 0"),
	command(3, 1, "INSERT INTO t VALUES (-9223372036854775808, '', TRUE)"),
	command(1, 2, "SELECT a FROM t"),
	command(1, 2, "DROP TABLE t"),
}

var whole = pieces{
	{"Index", "0c"}, {"sessions", "07"},
	{"client 1", "00"}, {"Seq 1", "00"}, {"Class 1", "00"}, {"Count 1", "00"}, {"Index 1", "03"},
	{"client 2", "01"}, {"Seq 2", "02"}, {"Class 2", "14"}, {"Count 2", "00"}, {"Index 2", "0b"},
	{"client 3", "02"}, {"Seq 3", "01"}, {"Class 3", "00"}, {"Count 3", "01"}, {"Index 3", "09"},
	{"client 4", "03"}, {"Seq 4", "01"}, {"Class 4", "00"}, {"Count 4", "01"}, {"Index 4", "0a"},
	{"client 5", "07"}, {"Seq 5", "8001"}, {"Class 5", "00"}, {"Count 5", "00"}, {"Index 5", "04"},
	{"client 6", "08"}, {"Seq 6", "ffffffffffffffffff01"}, {"Class 6", "00"}, {"Count 6", "00"}, {"Index 6", "05"},
	{"client 7", "ac02"}, {"Seq 7", "06"}, {"Class 7", "00"}, {"Count 7", "02"}, {"Index 7", "07"},
	{"tables", "02"},
	{"t", "01 74"}, {"columns of t", "03"},
	{"t.a", "01 61"}, {"type of t.a", "02"}, {"NotNull of t.a", "01"},
	{"t.bc", "02 6263"}, {"type of t.bc", "03"}, {"NotNull of t.bc", "00"},
	{"t.d", "01 64"}, {"type of t.d", "01"}, {"NotNull of t.d", "01"},
	{"keys of t", "04"},
	{"key 1", "00"}, {"bits of key 1", "03"}, {"columns of key 1", "01"}, {"column of key 1", "00"},
	{"key 2", "00"}, {"bits of key 2", "01"}, {"columns of key 2", "01"}, {"column of key 2", "02"},
	{"key 3", "01 69"}, {"bits of key 3", "00"}, {"columns of key 3", "03"}, {"column 1 of key 3", "02"}, {"column 2 of key 3", "00"}, {"column 3 of key 3", "01"},
	{"key 4", "01 6a"}, {"bits of key 4", "01"}, {"columns of key 4", "01"}, {"column of key 4", "01"},
	{"Next of t", "04"}, {"rows of t", "02"},
	{"Id 1", "02"}, {"values 1", "03"}, {"a of row 1", "02 8001"}, {"bc of row 1", "00"}, {"d of row 1", "01 00"},
	{"Id 2", "03"}, {"values 2", "03"}, {"a of row 2", "02 ffffffffffffffffff01"}, {"bc of row 2", "03 00"}, {"d of row 2", "01 01"},
	{"u", "01 75"}, {"columns of u", "02"},
	{"u.a", "01 61"}, {"type of u.a", "02"}, {"NotNull of u.a", "00"},
	{"u.b", "01 62"}, {"type of u.b", "02"}, {"NotNull of u.b", "01"},
	{"keys of u", "01"},
	{"key of u", "00"}, {"bits of u's key", "01"}, {"columns of u's key", "02"}, {"column 1 of u's key", "01"}, {"column 2 of u's key", "00"},
	{"Next of u", "01"}, {"rows of u", "00"},
}

// TestDump: P18.3: all that a machine has, byte by byte.
func TestDump(t *testing.T) {
	p := fresh()
	for _, e := range wholeSteps {
		p.apply(t, e)
	}
	if got, want := p.m.Dump(), whole.bytes(t); !bytes.Equal(got, want) {
		t.Errorf("P18.3: %x, want %x", got, want)
	}
	for _, c := range []struct {
		do   []api.Entry
		want string
	}{
		{nil, "00 00 00"},
		{make([]api.Entry, 127), "7f 00 00"},
		{make([]api.Entry, 128), "8001 00 00"},
		{[]api.Entry{command(1, 2, "foo")}, "01 01 01 02 01 00 01 00"},
		{[]api.Entry{command(128, 2, "SELECT a FROM t"), {}, command(128, 1, "")}, "03 01 8001 02 14 00 01 00"},
		{commands(1, "CREATE TABLE ab (x BOOL)"), "01 01 01 01 00 00 01 01 02 6162 01 01 78 01 00 00 01 00"},
		{commands(1, "CREATE TABLE t (x INT)", "CREATE TABLE s (x TEXT)", "DROP TABLE t"), "03 01 01 03 00 00 03 01 01 73 01 01 78 03 00 00 01 00"},
		{commands(1, "CREATE TABLE t (x INT)", "INSERT INTO t VALUES (0), (-1), (63), (64), (-64), (-65)", "DELETE FROM t WHERE x = -1"), "03 01 01 03 00 01 03 01 01 74 01 01 78 02 00 00 07 05 01 01 02 00 03 01 02 7e 04 01 02 8001 05 01 02 7f 06 01 02 8101"},
	} {
		p := fresh()
		for _, e := range c.do {
			p.apply(t, e)
		}
		if got, want := p.m.Dump(), (pieces{{"all", c.want}}).bytes(t); !bytes.Equal(got, want) {
			t.Errorf("P18.3: behind %v: %x, want %x", c.do, got, want)
		}
	}
}

// TestSessionsRise: P18.3: sessions stand by their clients, however they came.
func TestSessionsRise(t *testing.T) {
	clients := []uint64{0, 1, 2, 9, 10, 127, 128, 129, 255, 256, 1 << 14, 1<<14 + 1, 1 << 32, 1<<63 - 1, 1 << 63, math.MaxUint64}
	for seed := range int64(20) {
		p := fresh()
		c := byChance(seed)
		for range 60 {
			client := pick(c, clients...)
			p.apply(t, command(client, uint64(c(3)), "foo"))
		}
		p.again(t)
	}
}

// TestFullMachine: P18.3: as many tables, columns, keys and rows as may be.
func TestFullMachine(t *testing.T) {
	p := fullMachine(t)
	for range 3 {
		p = p.again(t)
	}
}

// fullMachine: six tables of six columns, four keys and sixty rows with texts of forty bytes.
func fullMachine(t *testing.T) pair {
	t.Helper()
	p := fresh()
	seq := uint64(0)
	do := func(sql string) {
		t.Helper()
		seq++
		if r := p.apply(t, command(seq%8, seq, sql)); r.Class != 0 {
			t.Fatalf("%q: %s", sql, say(r))
		}
	}
	for n := range 6 {
		name := strings.Repeat(string(rune('a'+n)), api.MaxName)
		do("CREATE TABLE " + name + " (a INT PRIMARY KEY, b INT, c INT, d INT, e TEXT, " + strings.Repeat("f", api.MaxName) + " TEXT UNIQUE)")
		do("CREATE INDEX x" + name[1:] + " ON " + name + " (f" + strings.Repeat("f", api.MaxName-1) + ", e, d, c, b, a)")
		do("CREATE UNIQUE INDEX y" + name[1:] + " ON " + name + " (b, a)")
		for k := range 6 {
			var l []string
			for i := range 10 {
				text := string(rune('0'+k)) + string(rune('0'+i))
				l = append(l, "("+text+", -9223372036854775808, 9223372036854775807, -9223372036854775808, '"+strings.Repeat("\u00e4", 20)+"', '"+strings.Repeat("z", 38)+text+"')")
			}
			do("INSERT INTO " + name + " VALUES " + strings.Join(l, ", "))
		}
	}
	return p
}

// TestIndexAtItsEnd: rule 1: an Index as great as may be is taken, and what comes behind ends.
func TestIndexAtItsEnd(t *testing.T) {
	b := append([]byte{0xfe, 0xff, 0xff, 0xff, 0xff, 0xff, 0xff, 0xff, 0xff, 1}, 0, 0)
	m := loaded(t, b)
	if m == nil || m.Index() != math.MaxUint64-1 {
		t.Fatalf("P18.3: %x is refused", b)
	}
	r := m.Apply(command(1, 1, "CREATE TABLE t (a INT)"))
	if r.Index != math.MaxUint64 || m.Index() != math.MaxUint64 || r.Class != 0 {
		t.Errorf("P18.1: %s", say(r))
	}
	if loaded(t, m.Dump()) == nil {
		t.Errorf("P18.3: %x is refused", m.Dump())
	}
	m.Apply(command(1, 2, "DROP TABLE t"))
	machine.Load(m.Dump())
}
