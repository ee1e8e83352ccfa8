package machine_test

import (
	"bytes"
	"testing"

	"consistory/api"
	"consistory/machine"
)

// TestSameEntriesSameDump: P18.4: machines that applied the same have the same Dump, whatever they were asked between, and whatever other machines do.
func TestSameEntriesSameDump(t *testing.T) {
	for seed := range int64(10) {
		c := byChance(seed)
		one, other, third := machine.New(), machine.New(), machine.New()
		m := maker{c}
		x := fresh().x
		for range 80 {
			e := m.entry(x)
			x.apply(e)
			one.Apply(e)
			other.Query(m.question())
			other.Seen(e.Client)
			other.Dump()
			other.Apply(e)
			third.Apply(m.entry(x))
			if !bytes.Equal(one.Dump(), other.Dump()) {
				t.Fatalf("P18.4: %x, and %x", one.Dump(), other.Dump())
			}
		}
	}
}

// TestOrderOfSessionsAndTables: P18.4: what a machine went through isn't seen in its Dump, as far as it has the same now.
func TestOrderOfSessionsAndTables(t *testing.T) {
	one, other := fresh(), fresh()
	l := []api.Entry{command(1, 1, "CREATE TABLE t (a INT, b INT)"), {}, command(1, 3, "INSERT INTO t VALUES (1, 2), (3, 4)"), {}, command(9, 1, "foo")}
	for _, e := range l {
		one.apply(t, e)
	}
	l[1], l[3] = command(1, 2, "CREATE INDEX i ON t (a)"), command(1, 1, "DROP TABLE t")
	for i, e := range l {
		other.apply(t, e)
		if i == 1 {
			other = other.again(t)
		}
	}
	other.apply(t, command(1, 4, "DROP INDEX i"))
	one.apply(t, command(1, 4, "UPDATE t SET a = a WHERE a = 77"))
	if !bytes.Equal(one.m.Dump(), other.m.Dump()) {
		t.Errorf("P18.4: %x, and %x", one.m.Dump(), other.m.Dump())
	}
}

// behind: what comes behind the statements: commands again, older ones, new ones, questions, of all classes.
var behind = []api.Entry{
	command(7, 8, "again"), command(7, 7, "DROP TABLE t"), {},
	command(8, 1, "INSERT INTO t VALUES (1, 'q', TRUE)"), command(8, 2, "INSERT INTO t VALUES (9, 'x', TRUE)"), command(8, 3, "INSERT INTO t VALUES (9, 'q', NULL)"),
	command(8, 4, "UPDATE t SET b = 'zz' WHERE b = 'x'"), command(8, 5, "UPDATE n SET g = g + 1"), command(8, 6, "UPDATE n SET z = 1 / g"), command(8, 7, "UPDATE n SET g = 5"),
	command(8, 8, "INSERT INTO n VALUES (77, 1), (78, 1)"), command(8, 9, "CREATE INDEX i ON n (z)"), command(8, 10, "DROP INDEX i"), command(8, 11, "CREATE INDEX i ON n (z)"),
	command(8, 12, "INSERT INTO e VALUES (1)"), command(8, 13, "DROP TABLE n"), command(8, 14, "SELECT a FROM t"), command(8, 14, "DELETE FROM t"), command(7, 9, "DELETE FROM t WHERE a = 2"),
	command(7, 10, "INSERT INTO t (c, a) VALUES (TRUE, 2)"), command(9, 1, "foo"), command(9, 1, "foo"), {Kind: 5},
}

// TestLoadGoesOn: P18.4: a machine that was loaded goes on as the one it is of, from any point on, and again.
func TestLoadGoesOn(t *testing.T) {
	l := append(commands(7, statements...), behind...)
	for cut := range len(l) + 1 {
		p := fresh()
		for _, e := range l[:cut] {
			p.apply(t, e)
		}
		twin := p.again(t)
		for i, e := range l[cut:] {
			for _, sql := range []string{"SELECT * FROM t ORDER BY a", "SELECT COUNT(*), SUM(g) FROM n", "SELECT a FROM e WHERE a = 1", "DELETE FROM t"} {
				if a, b := p.query(t, sql), twin.query(t, sql); !equal(a, b) {
					t.Errorf("P18.4: cut at %d, %s: %s, and %s", cut, sql, say(a), say(b))
				}
			}
			if a, b := p.apply(t, e), twin.apply(t, e); !equal(a, b) {
				t.Errorf("P18.4: cut at %d, %+v: %s, and %s", cut, e, say(a), say(b))
			}
			if i%5 == 4 {
				twin = twin.again(t)
			}
		}
		if !bytes.Equal(p.m.Dump(), twin.m.Dump()) {
			t.Errorf("P18.4: cut at %d: %x, and %x", cut, p.m.Dump(), twin.m.Dump())
		}
	}
}

// TestDoneOnce: P18.4: a command that is applied again, at once or later, is done once, and replied the same; the tables are as if it had come once.
func TestDoneOnce(t *testing.T) {
	l := append(commands(7, statements...), behind...)
	for name, comes := range map[string]func(i int) []api.Entry{
		"at once":            func(i int) []api.Entry { return []api.Entry{l[i], l[i]} },
		"often":              func(i int) []api.Entry { return []api.Entry{l[i], {}, l[i], l[i], {Kind: 2}, l[i]} },
		"all that came, too": func(i int) []api.Entry { return append([]api.Entry{l[i]}, l[:i+1]...) },
	} {
		once, again := machine.New(), fresh()
		first := map[[2]uint64]api.Reply{}
		for i := range l {
			once.Apply(l[i])
			for _, e := range comes(i) {
				r := again.apply(t, e)
				key := [2]uint64{e.Client, e.Seq}
				was, ok := first[key]
				if !ok {
					first[key] = r
				} else if r.Class != api.ErrBusy && !equal(r, was) {
					t.Errorf("P18.4: %s: %+v: %s, then %s", name, e, say(was), say(r))
				}
			}
			if got, want := stateOf(again.m), stateOf(once); !equal(got, want) {
				t.Fatalf("P18.4: %s: behind %+v: %s, want %s", name, l[i], got.say(), want.say())
			}
		}
	}
}
