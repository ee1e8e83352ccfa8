package wire_test

import (
	"reflect"
	"testing"

	"consistory/api"
	"consistory/wire"
)

// TestNothingHandedInIsChanged: neither what is handed in nor the room behind it.
func TestNothingHandedInIsChanged(t *testing.T) {
	entry, _ := wire.PutEntry(api.Entry{Kind: api.EnCommand, Sql: "x"})
	line, _ := wire.PutRow(row(integer(5), textOf("t")))
	frame, _ := wire.Frame([]byte("abc"))
	msg := comesBack(t, someMsg())
	for _, b := range [][]byte{nil, wire.PutUint(300), wire.PutText("abc"), line, entry, frame, msg, {0x80}, {0x80, 0}} {
		b, check := guarded(t, b)
		wire.Uint(b)
		wire.Int(b)
		wire.Text(b)
		wire.Row(b)
		wire.Entry(b)
		wire.Msg(b)
		wire.Sum(b)
		wire.Unframe(b)
		wire.Frame(b)
		check()
	}
	data, check := guarded(t, []byte("data"))
	m := someMsg()
	m.Data = data
	comesBack(t, m)
	m.Data = []byte("data\x00")
	check()
	if !reflect.DeepEqual(m, someMsg()) {
		t.Errorf("PutMsg changed %v", m)
	}
}

// scribble writes over all of b and the room behind it.
func scribble(b []byte) {
	b = b[:cap(b)]
	for i := range b {
		b[i] = 0x5A
	}
}

func TestAnswersAreNewMemory(t *testing.T) {
	b := comesBack(t, someMsg())
	first, _ := wire.Msg(b)
	second, _ := wire.Msg(b)
	scribble(b)
	scribble(first.Data)
	for _, l := range first.Reply.Answer.Rows {
		for i := range l[:cap(l)] {
			l[:cap(l)][i] = api.Value{Kind: 77}
		}
	}
	if !reflect.DeepEqual(plain(second), someMsg()) {
		t.Errorf("rule 3: %v", second)
	}
	f, _ := wire.Frame([]byte("abc"))
	one, _, _ := wire.Unframe(f)
	two, _, _ := wire.Unframe(f)
	scribble(f)
	scribble(one)
	if string(two) != "abc" {
		t.Errorf("rule 3: %q", two)
	}
	line, _ := wire.PutRow(row(textOf("abc")))
	l, _, _ := wire.Row(line)
	s, _, _ := wire.Text(line[2:])
	scribble(line)
	if l[0].Text != "abc" || s != "abc" {
		t.Errorf("rule 3: %v, %q", l, s)
	}
}

// TestListsOfOneAnswerAreApart: what is put behind one row stays out of the others.
func TestListsOfOneAnswerAreApart(t *testing.T) {
	m := someMsg()
	m.Reply.Answer.Rows = [][]api.Value{row(integer(1), integer(2), integer(3)), row(integer(4)), row(integer(5))}
	got, _ := wire.Msg(comesBack(t, m))
	rows := got.Reply.Answer.Rows
	for i := range rows {
		_ = append(rows[i], integer(-1), integer(-1), integer(-1), integer(-1))
	}
	if !reflect.DeepEqual(plain(got), m) {
		t.Errorf("rule 3: %v", rows)
	}
}
