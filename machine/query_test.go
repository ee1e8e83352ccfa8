package machine_test

import (
	"bytes"
	"strings"
	"testing"

	"consistory/api"
)

// TestQuery: P18.2: parse.Parse's Class; ErrForm, if it is no SELECT; else exec.Query's Class or Answer; with Index, and Seq 0.
func TestQuery(t *testing.T) {
	p := filled(t)
	for _, c := range []struct{ sql, want string }{
		{"SELECT a, b AS n, 1 FROM t ORDER BY a DESC", "a n col3: 4 NULL 1, 2 NULL 1, 1 'x' 1 at 8"},
		{"select count(*), sum(a) from t;", "col1 col2: 3 7 at 8"},
		{"SELECT a FROM t WHERE b = 'x' AND c = TRUE", "a: 1 at 8"},
		{"SELECT a FROM e", "a:  at 8"},
		{"SELECT a FROM t LIMIT 0", "a:  at 8"},
		{"SELECT g FROM n WHERE g = 0 -- zero", "g: 0 at 8"},
		{"SELECT zz FROM t", "class 3 at 8"},
		{"SELECT a FROM zz", "class 3 at 8"},
		{"SELECT a || b FROM t", "class 4 at 8"},
		{"SELECT *, *, *, *, *, *, * FROM t", "class 2 at 8"},
		{"SELECT 1 / g FROM n", "class 7 at 8"},
		{"SELECT 1 / g, g - 1 FROM n", "class 6 at 8"},
		{"SELECT SUM(g) FROM n WHERE g > 0 AND z = 1", "col1: 9223372036854775807 at 8"},
		{"SELECT -g FROM n", "class 6 at 8"},
		{"", "class 1 at 8"},
		{"SELEC", "class 1 at 8"},
		{"SELECT a FROM t; SELECT a FROM t", "class 1 at 8"},
		{"SELECT FROM t", "class 1 at 8"},
		{"DROP", "class 1 at 8"},
		{"\x00", "class 1 at 8"},
		{"SELECT a FROM t" + strings.Repeat(" ", api.MaxSQL), "class 2 at 8"},
		{"SELECT 9223372036854775808 FROM t", "class 2 at 8"},
		{"SELECT a FROM t JOIN t u ON TRUE JOIN t v ON TRUE JOIN t w ON TRUE", "class 2 at 8"},
		{"DROP TABLE t", "class 20 at 8"},
		{"DROP TABLE zz", "class 20 at 8"},
		{"DROP INDEX i", "class 20 at 8"},
		{"CREATE TABLE z (a INT)", "class 20 at 8"},
		{"CREATE TABLE t (a INT)", "class 20 at 8"},
		{"CREATE INDEX z ON t (a)", "class 20 at 8"},
		{"INSERT INTO t VALUES (9, 'z', TRUE)", "class 20 at 8"},
		{"INSERT INTO t VALUES (1 / 0, 'z', TRUE)", "class 20 at 8"},
		{"UPDATE t SET a = a + 1", "class 20 at 8"},
		{"DELETE FROM t", "class 20 at 8"},
		{"DELETE FROM t WHERE zz = 1", "class 20 at 8"},
	} {
		r := p.query(t, c.sql)
		if say(r) != c.want || r.Seq != 0 || r.Answer.Count != 0 {
			t.Errorf("P18.2: %.60q: %s, want %s", c.sql, say(r), c.want)
		}
		if r.Class != 0 && !equal(r.Answer, api.Answer{}) {
			t.Errorf("P18.2: %.60q: %+v beside a Class", c.sql, r.Answer)
		}
	}
	if p.m.Store().Count(0) != 3 || p.m.Index() != 8 {
		t.Error("P18.2: something has changed")
	}
}

// TestTooManyPairs: P18.2: exec's ErrLimit.
func TestTooManyPairs(t *testing.T) {
	p := fresh()
	p.apply(t, command(1, 1, "CREATE TABLE t (a INT)"))
	for n := range uint64(3) {
		p.apply(t, command(1, n+2, "INSERT INTO t VALUES (1), (2), (3), (4), (5), (6), (7), (8), (9), (10)"))
	}
	for _, c := range []struct{ sql, want string }{
		{"SELECT COUNT(*) FROM t JOIN t u ON TRUE JOIN t v ON FALSE", "class 2 at 4"},
		{"SELECT COUNT(*) FROM t JOIN t u ON TRUE", "col1: 900 at 4"},
	} {
		if r := p.query(t, c.sql); say(r) != c.want {
			t.Errorf("P18.2: %s: %s, want %s", c.sql, say(r), c.want)
		}
	}
}

// TestQueryFollows: P18.2: Index and answer are those of what was applied by now, whatever was asked ahead.
func TestQueryFollows(t *testing.T) {
	p := fresh()
	const sql = "SELECT a FROM t ORDER BY a"
	for _, c := range []struct {
		e    api.Entry
		want string
	}{
		{api.Entry{}, "class 3 at 1"},
		{command(1, 1, "CREATE TABLE t (a INT)"), "a:  at 2"},
		{command(1, 2, "INSERT INTO t VALUES (2), (1)"), "a: 1, 2 at 3"},
		{command(1, 3, "INSERT INTO t VALUES (1 / 0)"), "a: 1, 2 at 4"},
		{command(1, 3, "INSERT INTO t VALUES (5)"), "a: 1, 2 at 5"},
		{command(1, 1, "INSERT INTO t VALUES (5)"), "a: 1, 2 at 6"},
		{command(1, 4, "CREATE INDEX i ON t (a)"), "a: 1, 2 at 7"},
		{command(1, 5, "DELETE FROM t WHERE a = 1"), "a: 2 at 8"},
		{command(1, 6, "UPDATE t SET a = a * 5"), "a: 10 at 9"},
		{command(1, 7, "DROP TABLE t"), "class 3 at 10"},
	} {
		p.apply(t, c.e)
		for range 2 {
			if r := p.query(t, sql); say(r) != c.want {
				t.Errorf("P18.2: behind %+v: %s, want %s", c.e, say(r), c.want)
			}
		}
	}
}

// TestSeen: P18.2: the Seq of a client's last command, and true; 0 and false.
func TestSeen(t *testing.T) {
	p := fresh()
	for _, c := range []struct {
		e           api.Entry
		five, seven string
	}{
		{api.Entry{Kind: api.EnNone, Client: 5, Seq: 3}, "none", "none"},
		{command(5, 0, "foo"), "0", "none"},
		{command(7, 9, "SELECT a FROM t"), "0", "9"},
		{command(5, 3, "CREATE TABLE t (a INT)"), "3", "9"},
		{command(5, 2, "DROP TABLE t"), "3", "9"},
		{command(5, 3, "DROP TABLE t"), "3", "9"},
		{command(5, 1<<64-1, "DROP TABLE zz"), "18446744073709551615", "9"},
		{command(7, 10, "DROP TABLE t"), "18446744073709551615", "10"},
	} {
		p.apply(t, c.e)
		for client, want := range map[uint64]string{5: c.five, 7: c.seven, 0: "none", 6: "none", 1<<64 - 1: "none"} {
			seq, ok := p.m.Seen(client)
			got := strings.Fields(say(api.Reply{Seq: seq}))[0]
			switch {
			case !ok && seq == 0:
				got = "none"
			case ok && seq == 0:
				got = "0"
			}
			if strings.TrimSuffix(got, ":") != want {
				t.Errorf("P18.2: behind %+v: Seen(%d): %d, %v, want %s", c.e, client, seq, ok, want)
			}
		}
	}
}

// TestAskingChangesNothing: P18.2: whatever is asked, Dump is the same, and so is what comes behind.
func TestAskingChangesNothing(t *testing.T) {
	p, other := filled(t), filled(t)
	was := p.m.Dump()
	for range 3 {
		for _, sql := range append(statements, "SELECT * FROM t", "SELECT SUM(g) FROM n", "foo", "DROP TABLE t", "DELETE FROM n") {
			p.query(t, sql)
			p.m.Seen(7)
			p.m.Seen(8)
			p.m.Store()
			p.m.Index()
		}
	}
	if !bytes.Equal(p.m.Dump(), was) {
		t.Error("P18.2: something has changed")
	}
	for _, e := range []api.Entry{command(7, 9, "INSERT INTO t VALUES (3, 'y', TRUE)"), command(8, 1, "UPDATE n SET g = 1 WHERE g = 0"), command(7, 9, "")} {
		if a, b := p.apply(t, e), other.apply(t, e); !equal(a, b) {
			t.Errorf("P18.2: %s, and %s of one that was asked nothing", say(a), say(b))
		}
	}
}
