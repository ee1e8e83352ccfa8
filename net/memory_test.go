package net_test

import (
	"testing"

	"consistory/api"
	"consistory/net"
)

// scribble writes over all that hangs on m, and the room behind it.
func scribble(m api.Msg) {
	a := m.Reply.Answer
	over(m.Data, 0x5A)
	over(m.Entries, api.Entry{Term: 77, Sql: "over"})
	over(a.Cols, "over")
	for _, l := range a.Rows {
		over(l, api.Value{Kind: api.Int, Int: 77})
	}
	over(a.Rows, []api.Value{{Kind: api.Text, Text: "over"}})
}

func over[T any](l []T, x T) {
	l = l[:cap(l)]
	for i := range l {
		l[i] = x
	}
}

// TestWhatIsSentIsNotKept: what is done with a message behind its Send is no business of the net's.
func TestWhatIsSentIsNotKept(t *testing.T) {
	n := net.New()
	m := someMsg()
	done(t, n.Send(m), n.Copy(0))
	if !same(m, someMsg()) {
		t.Errorf("rule 3: Send changed %v", m)
	}
	scribble(m)
	for range 2 {
		if got, err := n.Take(0); err != nil || !same(got, someMsg()) {
			t.Errorf("rule 3: %v, %v", got, err)
		}
	}
}

// TestRoomBehindWhatIsSent: Send writes nothing there.
func TestRoomBehindWhatIsSent(t *testing.T) {
	m := someMsg()
	room := []byte("data\x00behind")
	m.Data = room[:5]
	entries := append(m.Entries, api.Entry{Term: 99})
	m.Entries = entries[:2]
	done(t, net.New().Send(m))
	if string(room) != "data\x00behind" || entries[2].Term != 99 {
		t.Errorf("rule 3: %q, %v", room, entries)
	}
}

// TestAnswersAreNewMemory: whatever is done with one answer, the others and what is in flight stay.
func TestAnswersAreNewMemory(t *testing.T) {
	n := net.New()
	done(t, n.Send(someMsg()), n.Copy(0), n.Copy(1))
	var answers []api.Msg
	keep := func(m api.Msg, err error) {
		done(t, err)
		answers = append(answers, m)
	}
	keep(n.Peek(0))
	keep(n.Peek(0))
	keep(n.Peek(1))
	keep(n.Take(0))
	keep(n.Take(1))
	for i, m := range answers {
		if !same(m, someMsg()) {
			t.Errorf("rule 3: answer %d was changed by one ahead of it", i)
		}
		scribble(m)
	}
	if got, err := n.Take(0); err != nil || !same(got, someMsg()) {
		t.Errorf("rule 3: %v, %v", got, err)
	}
}

// TestListsOfOneAnswerAreApart: what is put behind one list stays out of the others.
func TestListsOfOneAnswerAreApart(t *testing.T) {
	n := net.New()
	m := someMsg()
	m.Reply.Answer.Rows = [][]api.Value{make([]api.Value, 3), make([]api.Value, 1), make([]api.Value, 2)}
	done(t, n.Send(m))
	got, err := n.Peek(0)
	done(t, err)
	for _, l := range got.Reply.Answer.Rows {
		_ = append(l, api.Value{Kind: 9}, api.Value{Kind: 9}, api.Value{Kind: 9})
	}
	if !same(got, m) {
		t.Errorf("rule 3: %v", got.Reply.Answer.Rows)
	}
}
