package machine_test

import (
	"bytes"
	"reflect"
	"runtime"
	"slices"
	"strings"
	"testing"
	"time"
	"unsafe"

	"consistory/api"
	"consistory/change"
	"consistory/machine"
)

// wipe takes away all that x points to has in its lists, the room behind them with it.
func wipe(x any) {
	for _, v := range spots(x) {
		if v.Kind() == reflect.Slice {
			v.SetLen(v.Cap())
			v.Clear()
		}
	}
}

// texts tells all texts of what x points to.
func texts(x any) []string {
	var out []string
	for _, v := range spots(x) {
		if v.Kind() == reflect.String && v.Len() > 0 {
			out = append(out, v.String())
		}
	}
	return out
}

// lies: whether a text is within bytes that begin at from.
func lies(s string, from *byte, size int) bool {
	start, here := uintptr(unsafe.Pointer(from)), uintptr(unsafe.Pointer(unsafe.StringData(s)))
	return here >= start && here < start+uintptr(size)
}

// TestEntriesAreNotKept: rule 3: what a machine has, and answers, is no part of an entry's or a question's text.
func TestEntriesAreNotKept(t *testing.T) {
	p := filled(t)
	for i, sql := range []string{"CREATE TABLE longer (some INT, more TEXT, UNIQUE (some))", "CREATE INDEX named ON longer (more, some)", "INSERT INTO longer VALUES (1, 'some text')", "UPDATE longer SET more = 'other text'", "SELECT foo FROM t", "foo"} {
		text := strings.Clone(sql)
		p.apply(t, command(5, uint64(i+1), text))
		now := stateOf(p.m)
		for _, s := range texts(&now) {
			if lies(s, unsafe.StringData(text), len(text)) {
				t.Errorf("rule 3: %s: %q is the entry's", sql, s)
			}
		}
	}
	const sql = "SELECT more AS called, 'a value', some FROM longer"
	text := strings.Clone(sql)
	r := p.query(t, text)
	if len(texts(&r)) != 5 {
		t.Fatalf("%q", texts(&r))
	}
	for _, s := range texts(&r) {
		if lies(s, unsafe.StringData(text), len(text)) {
			t.Errorf("rule 3: %q is the question's", s)
		}
	}
}

// TestBytesAreNotKept: rule 3: what was loaded may become anything; it isn't changed by Load, nor is the room behind it.
func TestBytesAreNotKept(t *testing.T) {
	b := append(whole.bytes(t), 0xff, 0xff)
	was := bytes.Clone(b)
	m := loaded(t, b[:len(b)-2])
	if !bytes.Equal(b, was) {
		t.Error("rule 3: Load has changed its argument")
	}
	now := stateOf(m)
	for _, s := range texts(&now) {
		if lies(s, unsafe.SliceData(b), len(b)) {
			t.Errorf("rule 3: %q is the argument's", s)
		}
	}
	clear(b)
	if !bytes.Equal(m.Dump(), was[:len(was)-2]) {
		t.Error("rule 3: what is done with the argument is seen in the machine")
	}
}

// TestAnswersAreNewMemory: rule 3: what is done with an answer is seen neither in the machine nor in another answer.
func TestAnswersAreNewMemory(t *testing.T) {
	p := filled(t)
	const sql = "SELECT a, b AS n, 'x', c FROM t ORDER BY a"
	first, second := p.query(t, sql), p.query(t, sql)
	was := deepCopy(second)
	one, other := p.m.Dump(), p.m.Dump()
	dump := bytes.Clone(other)
	wipe(&first)
	clear(one[:cap(one)])
	if !equal(second, was) || !bytes.Equal(other, dump) || !bytes.Equal(p.m.Dump(), dump) {
		t.Error("rule 3: what is done with an answer is seen in another one")
	}
	if got := p.query(t, sql); !equal(got, was) {
		t.Errorf("rule 3: then %s, want %s", say(got), say(was))
	}
	for _, l := range second.Answer.Rows {
		_ = append(l, api.Value{Kind: api.Int, Int: 77})
	}
	_ = append(second.Answer.Cols, "more")
	if !equal(second, was) {
		t.Error("rule 3: lists of one answer share their room")
	}
	p.apply(t, command(8, 1, "UPDATE t SET b = 'changed' WHERE a = 1"))
	p.apply(t, command(8, 2, "DROP TABLE t"))
	if !equal(second, was) || !bytes.Equal(other, dump) {
		t.Error("rule 3: an answer has changed with the machine")
	}
}

// TestStoreIsItsOwn: rule 3: the store that is told is as the tables are now; what is done to it, or to the machine, isn't seen in the other.
func TestStoreIsItsOwn(t *testing.T) {
	p := filled(t)
	one, other := p.m.Store(), p.m.Store()
	was, data := p.m.Dump(), other.Data()
	for _, sql := range []string{"INSERT INTO t VALUES (50, 'new', TRUE)", "UPDATE t SET b = 'w' WHERE a = 1", "DROP TABLE n", "CREATE TABLE more (a INT)"} {
		if _, err := change.Run(one, sql); err != nil {
			t.Fatal(err)
		}
	}
	if !bytes.Equal(p.m.Dump(), was) || !equal(other.Data(), data) {
		t.Error("rule 3: what is done to a store is seen in the machine")
	}
	p.hold(t)
	p.apply(t, command(8, 1, "DELETE FROM t"))
	p.apply(t, command(8, 2, "DROP TABLE n"))
	if !equal(other.Data(), data) || one.Count(0) != 4 {
		t.Error("rule 3: what the machine does is seen in a store")
	}
	if p.m.Store().Count(0) != 0 {
		t.Error("the store isn't that of now")
	}
	twin := p.again(t)
	twin.apply(t, command(8, 3, "INSERT INTO t VALUES (1, 'twin', TRUE)"))
	p.hold(t)
}

// TestMachinesDontHangTogether: rule 6: what is done with one machine isn't seen in others, as those that were loaded of its Dump.
func TestMachinesDontHangTogether(t *testing.T) {
	p := filled(t)
	twin := p.again(t)
	was := twin.m.Dump()
	for _, e := range behind {
		p.apply(t, e)
	}
	if !bytes.Equal(twin.m.Dump(), was) {
		t.Error("rule 6: a machine has changed with another one")
	}
}

// TestManyClients: P18.1: very many clients, each with its session; it ends soon.
func TestManyClients(t *testing.T) {
	const n = 1 << 17
	start := time.Now()
	m := machine.New()
	for i := range uint64(n) {
		client := i * 0x9E3779B97F4A7C15
		if r := m.Apply(command(client, i+1, "foo")); r.Class != api.ErrSyntax || r.Index != i+1 {
			t.Fatalf("P18.1: %s", say(r))
		}
	}
	for i := range uint64(n) {
		client := i * 0x9E3779B97F4A7C15
		if seq, ok := m.Seen(client); seq != i+1 || !ok {
			t.Fatalf("P18.2: Seen(%d): %d, %v", client, seq, ok)
		}
	}
	b := m.Dump()
	if twin := loaded(t, b); twin == nil || !bytes.Equal(twin.Dump(), b) {
		t.Error("P18.3: many sessions are refused")
	}
	if took := time.Since(start); took > 20*time.Second {
		t.Errorf("P18.1: %s", took)
	}
}

// TestGreatNumbersTakeNoMemory: rule 1: how many there are is told by a few bytes; what isn't there takes neither time nor memory.
func TestGreatNumbersTakeNoMemory(t *testing.T) {
	start := time.Now()
	var before, after runtime.MemStats
	runtime.ReadMemStats(&before)
	for _, what := range []string{"sessions", "tables", "columns of t", "keys of t", "columns of key 3", "rows of t", "values 1", "t", "key 3", "bc of row 2"} {
		for _, hex := range []string{"ffffff7f", "ffffffff07", "ffffffffffffffff7f", "80808080808080808001", maxUint, "03 ffffffff07", "03 " + maxUint} {
			if loaded(t, whole.with(t, what, hex).bytes(t)) != nil {
				t.Errorf("P18.3: %s %s is loaded", what, hex)
			}
		}
	}
	long := slices.Concat([]byte{1}, []byte{0xff, 0xff, 0xff, 0xff, 0x0f}, make([]byte, 1<<22))
	if loaded(t, long) != nil {
		t.Error("P18.3: is loaded")
	}
	runtime.ReadMemStats(&after)
	if used := after.TotalAlloc - before.TotalAlloc; used > 64<<20 {
		t.Errorf("rule 1: %d bytes", used)
	}
	if took := time.Since(start); took > 20*time.Second {
		t.Errorf("rule 1: %s", took)
	}
}

// TestLongAndDeep: rule 1: whatever text is handed in, there is a reply.
func TestLongAndDeep(t *testing.T) {
	p := fresh()
	p.apply(t, command(1, 1, "CREATE TABLE t (a INT)"))
	seq := uint64(1)
	for _, sql := range []string{
		strings.Repeat("(", 1<<20), strings.Repeat("SELECT ", 1<<18), strings.Repeat("\x00", 5000), "DELETE FROM t WHERE " + strings.Repeat("NOT ", 400) + "TRUE", "DELETE FROM t WHERE " + strings.Repeat("NOT ", 30) + "TRUE", "DELETE FROM t WHERE " + strings.Repeat("NOT ", 31) + "TRUE",
		"SELECT a FROM t WHERE " + strings.Repeat("(", 30) + "TRUE" + strings.Repeat(")", 30), "SELECT a FROM t WHERE " + strings.Repeat("(", 31) + "TRUE" + strings.Repeat(")", 31),
		"SELECT a FROM t WHERE a = 1" + strings.Repeat(" OR a = 1", 190), "INSERT INTO t VALUES (1" + strings.Repeat(" + 1", 400) + ")",
	} {
		p.query(t, sql)
		seq++
		p.apply(t, command(1, seq, sql))
	}
}
