package machine_test

import (
	"bytes"
	"fmt"
	"math"
	"reflect"
	"slices"
	"strings"
	"testing"

	"consistory/api"
)

// maker makes entries and questions.
type maker struct{ chance }

func (m maker) table() string { return pick(m.chance, "t", "u", "v") }

func (m maker) key() string { return pick(m.chance, "i", "j", "k") }

func (m maker) number() string {
	return pick(m.chance, "0", "1", "2", "3", "NULL", fmt.Sprint(m.chance(100)), "9223372036854775807", "-9223372036854775808")
}

func (m maker) text() string {
	return pick(m.chance, "NULL", "''", "'x'", "'y'", "'it''s'", "'"+strings.Repeat("w", api.MaxText)+"'")
}

func (m maker) columns() string { return pick(m.chance, "a", "b", "c", "a, b", "b, a", "c, b, a") }

func (m maker) create() string {
	return "CREATE TABLE " + m.table() + " (a INT" + pick(m.chance, "", "", " PRIMARY KEY", " UNIQUE", " NOT NULL") + ", b TEXT" + pick(m.chance, "", "", " UNIQUE") + ", c BOOL" + pick(m.chance, "", "", " NOT NULL") + pick(m.chance, "", "", ", UNIQUE (b, a)") + ")"
}

func (m maker) insert() string {
	var l []string
	for range pick(m.chance, 1, 1, 2, 3, 10, 10) {
		l = append(l, "("+m.number()+pick(m.chance, "", "", "", "", "", "", " / 1", " + 1", " / 0")+", "+m.text()+pick(m.chance, "", "", "", "", "", " || 'z'")+", "+pick(m.chance, "TRUE", "FALSE", "TRUE", "FALSE", "NULL")+")")
	}
	return "INSERT INTO " + m.table() + " VALUES " + strings.Join(l, ", ")
}

func (m maker) where() string {
	return pick(m.chance, "", " WHERE a < "+m.number(), " WHERE a = "+m.number()+" AND c", " WHERE b = "+m.text(), " WHERE 1 / a = 0", " WHERE b IS NULL OR a BETWEEN 2 AND 50", " WHERE a IS NOT NULL")
}

// sql makes a statement, or a text that is none.
func (m maker) sql() string {
	switch n := m.chance(100); {
	case n < 6:
		return m.create()
	case n < 14:
		return "CREATE " + pick(m.chance, "", "UNIQUE ") + "INDEX " + m.key() + " ON " + m.table() + " (" + m.columns() + ")"
	case n < 15:
		return pick(m.chance, "DROP TABLE "+m.table(), m.create(), m.create())
	case n < 19:
		return "DROP INDEX " + m.key()
	case n < 24:
		return m.question()
	case n < 28:
		return pick(m.chance, "", "foo", "SELECT", "DROP TABLE t; DROP TABLE u", "DELETE FROM t"+strings.Repeat(" ", api.MaxSQL), "\xff", "INSERT INTO t VALUES (1)", "DELETE FROM t WHERE a = 9223372036854775808")
	case n < 45:
		return "UPDATE " + m.table() + " SET " + pick(m.chance, "a = a + 1", "a = a - 1", "a = 5 - a, b = 'x'", "b = "+m.text(), "c = NOT c", "a = 1 / a", "b = b || 'q'", "a = 'x'", "c = NULL") + m.where()
	case n < 52:
		return "DELETE FROM " + m.table() + m.where()
	}
	return m.insert()
}

func (m maker) question() string {
	return "SELECT " + pick(m.chance, "*", "a", "COUNT(*)", "SUM(a)", "a + 1", "1 / a", "b || 'z'", "c || 'z'", "zz", "DISTINCT c") + " FROM " + m.table() + pick(m.chance, "", "", " x JOIN "+m.table()+" y ON x.a = y.a", " JOIN u x ON TRUE JOIN v y ON TRUE") + m.where()
}

// entry makes one: of a command the Seq is mostly the next one of its client.
func (m maker) entry(x *model) api.Entry {
	e := api.Entry{Term: uint64(m.chance(5)), Kind: api.EnCommand, Client: pick[uint64](m.chance, 0, 1, 7, 127, 128, 1<<63, math.MaxUint64), Sql: m.sql()}
	if m.chance(15) == 0 {
		e.Kind = pick(m.chance, api.EnNone, 2, -1)
	}
	last, ok := x.seen(e.Client)
	switch n := m.chance(20); {
	case ok && n == 0:
		e.Seq = last
	case ok && n == 1 && last > 0:
		e.Seq = last - 1
	case n == 2:
		e.Seq = pick[uint64](m.chance, 0, 1, 2, uint64(m.chance(200)))
	default:
		e.Seq = last + 1
	}
	return e
}

// TestByChance: P18.1 to P18.4, of entries by chance, one behind the other; now and then on goes the machine that is loaded.
func TestByChance(t *testing.T) {
	t.Parallel()
	tried := map[string]int{}
	for seed := range int64(60) {
		m := maker{byChance(seed)}
		p := fresh()
		for n := range 250 {
			e := m.entry(p.x)
			if n < 8 {
				e.Sql = m.create()
			}
			last, ok := p.x.seen(e.Client)
			r := p.apply(t, e)
			switch {
			case e.Kind != api.EnCommand:
				tried["no command"]++
			case ok && e.Seq == last:
				tried["again"]++
			case ok && e.Seq < last:
				tried["older"]++
			default:
				tried[fmt.Sprint("new ", int(r.Class))]++
			}
			if m.chance(4) == 0 {
				tried[fmt.Sprint("question ", int(p.query(t, pick(m.chance, m.question, m.sql)()).Class))]++
			}
			if m.chance(20) == 0 {
				p = p.again(t)
			}
		}
		for i := range p.x.store.Schema().Tables {
			if p.x.store.Count(i) > 20 {
				tried["much"]++
			}
		}
	}
	for _, kind := range []string{
		"no command", "again", "older", "new 0", "new 1", "new 2", "new 3", "new 4", "new 5", "new 6", "new 7", "new 20",
		"question 0", "question 1", "question 2", "question 3", "question 4", "question 6", "question 7", "question 20", "much",
	} {
		if tried[kind] < 8 {
			t.Errorf("too little is tried: %s: %d", kind, tried[kind])
		}
	}
	if t.Failed() || testing.Verbose() {
		t.Log(tried)
	}
}

// spoil changes one place of what a dump is of, so that it may not be any more, or may be all the same.
func (m maker) spoil(x *parts) {
	v := pick(m.chance, spots(x)...)
	switch v.Kind() {
	case reflect.Int, reflect.Int64:
		v.SetInt(pick(m.chance, 0, 1, 2, 3, v.Int()+1, v.Int()-1, math.MaxInt64, math.MinInt64))
	case reflect.Uint64:
		v.SetUint(pick(m.chance, 0, 1, v.Uint()+1, v.Uint()-1, 60, 61, 100, 101, x.Index, x.Index+1, 1<<62, 1<<62+1, math.MaxUint64))
	case reflect.Bool:
		v.SetBool(!v.Bool())
	case reflect.String:
		v.SetString(pick(m.chance, "", "a", "b", "t", "u", "i", "A", "select", strings.Repeat("m", api.MaxName), strings.Repeat("m", api.MaxName+1), strings.Repeat("m", api.MaxText+1), "\x00"))
	case reflect.Slice:
		if n := v.Len(); n > 0 && m.chance(3) == 0 {
			v.Set(v.Slice(0, n-1))
		} else if n > 0 {
			v.Set(reflect.Append(v, v.Index(m.chance(n))))
		} else {
			v.Set(reflect.Append(v, reflect.New(v.Type().Elem()).Elem()))
		}
	case reflect.Struct:
		v.SetZero()
	}
}

// spoilBytes changes bytes.
func (m maker) spoilBytes(b []byte) []byte {
	b = bytes.Clone(b)
	n := m.chance(len(b))
	switch m.chance(6) {
	case 0:
		return b[:n]
	case 1:
		return slices.Delete(b, n, n+1)
	case 2:
		return slices.Insert(b, n, byte(m.chance(256)))
	case 3:
		return slices.Insert(b, n, b[m.chance(n+1):n]...)
	}
	b[n] = pick(m.chance, b[n]+1, b[n]-1, b[n]^0x80, 0, 1, byte(m.chance(256)))
	return b
}

// TestWrongDumpsByChance: P18.3: dumps of which a part is another one, or a byte: what the model tells.
func TestWrongDumpsByChance(t *testing.T) {
	t.Parallel()
	tried := map[string]int{}
	for seed := range int64(40) {
		m := maker{byChance(seed)}
		p := fresh()
		for range 20 + m.chance(60) {
			p.apply(t, m.entry(p.x))
		}
		for range 150 {
			x := p.x.parts()
			m.spoil(&x)
			if len(x.Data.Next) != len(x.Schema.Tables) || len(x.Data.Rows) != len(x.Schema.Tables) {
				continue
			}
			b, kind := x.dump(), "parts"
			if m.chance(2) == 0 {
				b, kind = m.spoilBytes(p.m.Dump()), "bytes"
			}
			q, ok := holdLoad(t, b)
			tried[fmt.Sprint(kind, " ", ok)]++
			if ok && q.x.index < math.MaxUint64 {
				q.apply(t, m.entry(q.x))
				q.again(t)
			}
		}
	}
	for _, kind := range []string{"parts true", "parts false", "bytes true", "bytes false"} {
		if tried[kind] < 100 {
			t.Errorf("too little is tried: %s: %d", kind, tried[kind])
		}
	}
	if t.Failed() || testing.Verbose() {
		t.Log(tried)
	}
}

// FuzzLoad: bytes as dumps; what is loaded goes on.
func FuzzLoad(f *testing.F) {
	for seed := range int64(6) {
		m := maker{byChance(seed)}
		p := fresh()
		f.Add(p.m.Dump(), "foo")
		for range 15 * seed {
			e := m.entry(p.x)
			p.m.Apply(e)
			p.x.apply(e)
		}
		f.Add(p.m.Dump(), m.sql())
	}
	f.Fuzz(func(t *testing.T, b []byte, lines string) {
		p, ok := holdLoad(t, b)
		if !ok {
			p = fresh()
		}
		for sql := range strings.SplitSeq(lines, "\n") {
			if strings.Count(strings.ToUpper(sql), "BETWEEN") > 4 { // they double what is looked at
				return
			}
			last, _ := p.x.seen(7)
			p.query(t, sql)
			if p.x.index == math.MaxUint64 {
				return
			}
			p.apply(t, command(7, last+1, sql))
			p = p.again(t)
		}
	})
}
