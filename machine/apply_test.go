package machine_test

import (
	"bytes"
	"math"
	"strings"
	"testing"

	"consistory/api"
	"consistory/machine"
)

// TestNew: P18.1: no tables, no sessions, Index 0; so is a Machine that New didn't make.
func TestNew(t *testing.T) {
	for _, m := range []*machine.Machine{machine.New(), {}} {
		if m.Index() != 0 || len(m.Store().Schema().Tables) != 0 || m.Store().Count(0) != 0 {
			t.Errorf("P18.1: Index %d, %s", m.Index(), stateOf(m).say())
		}
		if b := m.Dump(); !bytes.Equal(b, []byte{0, 0, 0}) {
			t.Errorf("P18.3: of a new one %x", b)
		}
		if seq, ok := m.Seen(0); seq != 0 || ok {
			t.Errorf("P18.2: Seen %d, %v", seq, ok)
		}
		p := pair{m, fresh().x}
		p.query(t, "SELECT a FROM t")
		for _, e := range commands(0, statements...) {
			p.apply(t, e)
		}
	}
}

// TestEntriesThatDoNothing: P18.1: what is no EnCommand: a zero Reply; Index is one more all the same.
func TestEntriesThatDoNothing(t *testing.T) {
	p := filled(t)
	was := stateOf(p.m)
	index := p.m.Index()
	for _, kind := range []int{api.EnNone, 2, 3, -1, math.MaxInt, math.MinInt, api.EnCommand + 256, api.EnCommand + 1<<32} {
		for _, e := range []api.Entry{
			{Kind: kind},
			{Term: 9, Kind: kind, Client: 7, Seq: 100, Sql: "DROP TABLE t"},
			{Term: 9, Kind: kind, Client: 7, Seq: 8, Sql: "DROP TABLE t"},
			{Term: 9, Kind: kind, Client: 7, Seq: 1, Sql: "DROP TABLE t"},
			{Term: 9, Kind: kind, Client: 100, Seq: 1, Sql: "DROP TABLE t"},
		} {
			r := p.apply(t, e)
			index++
			if !equal(r, api.Reply{}) || p.m.Index() != index {
				t.Errorf("P18.1: %+v: %s, then Index %d, want nothing, %d", e, say(r), p.m.Index(), index)
			}
		}
	}
	if seq, ok := p.m.Seen(7); seq != 8 || !ok {
		t.Errorf("P18.1: Seen %d, %v", seq, ok)
	}
	if _, ok := p.m.Seen(100); ok || !equal(stateOf(p.m), was) {
		t.Errorf("P18.1: %s, want %s", stateOf(p.m).say(), was.say())
	}
}

// steps: commands of client 1, Seq 1 the first, one behind the other; what each is replied (say, without Seq and Index), and the tables behind it (asItWas: as they were).
type steps []struct{ sql, want, then string }

const asItWas = "as it was"

func (l steps) run(t *testing.T, p pair) {
	t.Helper()
	for i, s := range l {
		was := stateOf(p.m)
		r := p.apply(t, command(1, uint64(i+1), s.sql))
		if r.Seq != uint64(i+1) || r.Index != p.m.Index() || len(r.Answer.Cols)+len(r.Answer.Rows) != 0 {
			t.Errorf("P18.1: %.60q: Seq %d, Index %d, %+v", s.sql, r.Seq, r.Index, r.Answer)
		}
		got := say(api.Reply{Class: r.Class, Answer: r.Answer})
		if got != s.want+" at 0" {
			t.Errorf("P18.1: %.60q: %s, want %s", s.sql, got, s.want)
		}
		if s.then == asItWas {
			s.then = was.say()
		}
		if then := stateOf(p.m).say(); then != s.then {
			t.Errorf("P18.1: %.60q: then %s, want %s", s.sql, then, s.then)
		}
		if seq, ok := p.m.Seen(1); seq != uint64(i+1) || !ok {
			t.Errorf("P18.2: %.60q: Seen %d, %v", s.sql, seq, ok)
		}
	}
}

// replies: entries one behind the other, and what each is replied.
type replies []struct {
	client, seq uint64
	sql, want   string
}

func (l replies) run(t *testing.T, p pair) {
	t.Helper()
	for _, c := range l {
		if r := p.apply(t, command(c.client, c.seq, c.sql)); say(r) != c.want {
			t.Errorf("P18.1: %d %d %q: %s, want %s", c.client, c.seq, c.sql, say(r), c.want)
		}
	}
}

// TestCommands: P18.1: change.Run of Sql: its Class, or its Answer; behind an error all is as it was, but for the session and Index.
func TestCommands(t *testing.T) {
	steps{
		{"CREATE TABLE t (a INT PRIMARY KEY, b TEXT)", "0", "t: next 1"},
		{"CREATE TABLE t (a INT)", "class 3", asItWas},
		{"insert into T values (1, 'it''s'), (2, NULL), (3, 'z');", "3", "t: 1 (1, 'it''s'), 2 (2, NULL), 3 (3, 'z'), next 4"},
		{"INSERT INTO t VALUES (4, 'x'), (1, 'y')", "class 5", asItWas},
		{"INSERT INTO t VALUES (4, 5)", "class 4", asItWas},
		{"INSERT INTO t VALUES (1 / 0, NULL)", "class 7", asItWas},
		{"UPDATE t SET a = a + 1", "3", "t: 1 (2, 'it''s'), 2 (3, NULL), 3 (4, 'z'), next 4"},
		{"UPDATE t SET a = a + 9223372036854775807", "class 6", asItWas},
		{"UPDATE t SET b = 'w' WHERE a > 5", "0", asItWas},
		{"DELETE FROM t WHERE b IS NOT NULL AND a < 4", "1", "t: 2 (3, NULL), 3 (4, 'z'), next 4"},
		{"INSERT INTO t (a) VALUES (1)", "1", "t: 2 (3, NULL), 3 (4, 'z'), 4 (1, NULL), next 5"},
		{"CREATE UNIQUE INDEX i ON t (b)", "0", asItWas},
		{"CREATE INDEX i ON t (b)", "class 3", asItWas},
		{"UPDATE t SET b = 'z'", "class 5", asItWas},
		{"DROP INDEX i", "0", asItWas},
		{"UPDATE t SET b = 'z'", "3", "t: 2 (3, 'z'), 3 (4, 'z'), 4 (1, 'z'), next 5"},
		{"CREATE UNIQUE INDEX i ON t (b)", "class 5", asItWas},
		{"CREATE TABLE s (c BOOL)", "0", "t: 2 (3, 'z'), 3 (4, 'z'), 4 (1, 'z'), next 5; s: next 1"},
		{"DROP TABLE t", "0", "s: next 1"},
		{"DROP TABLE t", "class 3", asItWas},
		{"CREATE TABLE t (a INT)", "0", "s: next 1; t: next 1"},
		{"DROP TABLE", "class 1", asItWas},
		{"", "class 1", asItWas},
		{"DROP TABLE t; DROP TABLE s", "class 1", asItWas},
		{"DELETE FROM t" + strings.Repeat(" ", api.MaxSQL), "class 2", asItWas},
		{"\xff\x00", "class 1", asItWas},
		{"INSERT INTO t VALUES (1), (2), (3), (4), (5), (6), (7), (8), (9), (10)", "10", "s: next 1; t: 1 (1), 2 (2), 3 (3), 4 (4), 5 (5), 6 (6), 7 (7), 8 (8), 9 (9), 10 (10), next 11"},
		{"DELETE FROM t", "10", "s: next 1; t: next 11"},
	}.run(t, fresh())
}

// TestManyRows: P18.1: as many rows as may be, and one more; Counts up to 60.
func TestManyRows(t *testing.T) {
	p := fresh()
	p.apply(t, command(2, 1, "CREATE TABLE t (a INT)"))
	for n := range uint64(6) {
		p.apply(t, command(2, n+2, "INSERT INTO t VALUES (1), (2), (3), (4), (5), (6), (7), (8), (9), (10)"))
	}
	for i, want := range []string{"1: class 2 at 8", "2: 60 at 9", "3: 60 at 10"} {
		if r := p.apply(t, command(1, uint64(i+1), []string{"INSERT INTO t VALUES (1)", "UPDATE t SET a = a - 1", "DELETE FROM t"}[i])); say(r) != want {
			t.Errorf("P18.1: %s, want %s", say(r), want)
		}
		p.again(t)
	}
}

// TestQuestionsAsCommands: P18.1: ErrForm of all that parses as a SELECT, whatever it would be answered.
func TestQuestionsAsCommands(t *testing.T) {
	steps{
		{"SELECT a FROM t", "class 20", asItWas},
		{"select 1 FROM t;", "class 20", asItWas},
		{"SELECT zz FROM t", "class 20", asItWas},
		{"SELECT a FROM zz", "class 20", asItWas},
		{"SELECT 1 / 0 FROM t", "class 20", asItWas},
		{"SELECT a || 1 FROM t", "class 20", asItWas},
		{"SELECT COUNT(*) FROM t -- how many", "class 20", asItWas},
		{"SELECT a FROM", "class 1", asItWas},
		{"SELECT a FROM t JOIN t u ON TRUE JOIN t v ON TRUE JOIN t w ON TRUE", "class 2", asItWas},
		{"SELECT 9223372036854775808 FROM t", "class 2", asItWas},
		{"DELETE FROM t WHERE a = 1", "1", "t: 2 (2, NULL, FALSE), 4 (4, NULL, FALSE), next 5; n: 1 (9223372036854775807, 1), 2 (0, 0), 3 (-9223372036854775808, NULL), 4 (NULL, 1), next 5; e: next 1"},
	}.run(t, filled(t))
	p := filled(t)
	replies{
		{9, 4, "SELECT a FROM t", "4: class 20 at 9"},
		{9, 4, "DROP TABLE t", "4: class 20 at 9"},
		{9, 3, "DROP TABLE t", "3: class 53 at 11"},
		{9, 5, "DROP TABLE t", "5: 0 at 12"},
	}.run(t, p)
}

// TestSameSeq: P18.1: the session's Reply, as it was, its Index too, whatever Sql says now; nothing is done.
func TestSameSeq(t *testing.T) {
	p := fresh()
	replies{
		{5, 1, "CREATE TABLE t (a INT PRIMARY KEY)", "1: 0 at 1"},
		{5, 1, "CREATE TABLE t (a INT PRIMARY KEY)", "1: 0 at 1"},
		{5, 2, "INSERT INTO t VALUES (1), (2)", "2: 2 at 3"},
		{5, 2, "INSERT INTO t VALUES (1), (2)", "2: 2 at 3"},
		{5, 2, "DROP TABLE t", "2: 2 at 3"},
		{5, 2, "SELECT a FROM t", "2: 2 at 3"},
		{5, 2, "foo", "2: 2 at 3"},
		{5, 3, "INSERT INTO t VALUES (2)", "3: class 5 at 8"},
		{5, 3, "DELETE FROM t", "3: class 5 at 8"},
		{6, 3, "DELETE FROM t WHERE a = 2", "3: 1 at 10"},
		{5, 3, "INSERT INTO t VALUES (2)", "3: class 5 at 8"},
		{6, 3, "INSERT INTO t VALUES (2)", "3: 1 at 10"},
		{5, 4, "foo", "4: class 1 at 13"},
		{5, 4, "DELETE FROM t", "4: class 1 at 13"},
		{5, 5, "SELECT a FROM t", "5: class 20 at 15"},
		{5, 5, "DELETE FROM t", "5: class 20 at 15"},
		{5, 6, "DELETE FROM t", "6: 1 at 17"},
	}.run(t, p)
	for _, seq := range []uint64{0, 1, 1 << 63, math.MaxUint64} {
		p := fresh()
		first := p.apply(t, command(5, seq, "CREATE TABLE t (a INT)"))
		p.apply(t, api.Entry{})
		again := p.apply(t, command(5, seq, "CREATE TABLE t (a INT)"))
		if !equal(first, again) || first.Class != 0 || first.Index != 1 || first.Seq != seq {
			t.Errorf("P18.1: Seq %d: %s, then %s", seq, say(first), say(again))
		}
	}
}

// TestOlder: P18.1: of a lesser Seq ErrBusy, that Seq, Index as it is now; nothing is done, and the session is as it was.
func TestOlder(t *testing.T) {
	p := fresh()
	replies{
		{5, 10, "CREATE TABLE t (a INT)", "10: 0 at 1"},
		{5, 9, "DROP TABLE t", "9: class 53 at 2"},
		{5, 1, "SELECT a FROM t", "1: class 53 at 3"},
		{5, 0, "foo", "class 53 at 4"},
		{5, 10, "foo", "10: 0 at 1"},
		{5, 12, "foo", "12: class 1 at 6"},
		{5, 11, "DROP TABLE t", "11: class 53 at 7"},
		{5, 10, "DROP TABLE t", "10: class 53 at 8"},
		{5, 12, "DROP TABLE t", "12: class 1 at 6"},
		{6, 11, "INSERT INTO t VALUES (5)", "11: 1 at 10"},
		{5, math.MaxUint64, "INSERT INTO t VALUES (6)", "18446744073709551615: 1 at 11"},
		{5, math.MaxUint64 - 1, "DROP TABLE t", "18446744073709551614: class 53 at 12"},
		{5, 1 << 63, "DROP TABLE t", "9223372036854775808: class 53 at 13"},
		{5, 0, "DROP TABLE t", "class 53 at 14"},
		{5, math.MaxUint64, "DROP TABLE t", "18446744073709551615: 1 at 11"},
	}.run(t, p)
	if s := stateOf(p.m).say(); s != "t: 1 (5), 2 (6), next 3" {
		t.Errorf("P18.1: then %s", s)
	}
}

// TestEachClientItsOwn: P18.1: a session is one client's, whatever its number.
func TestEachClientItsOwn(t *testing.T) {
	p := fresh()
	p.apply(t, command(1, 1, "CREATE TABLE t (a INT)"))
	clients := []uint64{0, 2, 127, 128, 255, 256, 1 << 32, 1<<32 + 1, 1 << 63, math.MaxUint64}
	for n, c := range clients {
		if r := p.apply(t, command(c, 5, "INSERT INTO t VALUES (7)")); r.Class != 0 || r.Answer.Count != 1 || r.Index != uint64(n+2) {
			t.Errorf("P18.1: client %d: %s", c, say(r))
		}
	}
	for n, c := range clients {
		if r := p.apply(t, command(c, 5, "INSERT INTO t VALUES (7)")); r.Index != uint64(n+2) {
			t.Errorf("P18.1: client %d again: %s", c, say(r))
		}
	}
	if n := p.m.Store().Count(0); n != len(clients) {
		t.Errorf("P18.1: %d rows, want %d", n, len(clients))
	}
}

// TestTerm: P18.1: an entry's Term counts for nothing.
func TestTerm(t *testing.T) {
	one, other := fresh(), fresh()
	for i, e := range commands(3, statements...) {
		e.Term = 0
		a := one.apply(t, e)
		e.Term = uint64(i) << 60
		if b := other.apply(t, e); !equal(a, b) {
			t.Errorf("P18.1: %s, in another term %s", say(a), say(b))
		}
	}
	if !bytes.Equal(one.m.Dump(), other.m.Dump()) {
		t.Error("P18.1: a Term is seen in the machine")
	}
}
