package net_test

import (
	"errors"
	"fmt"
	"math/rand"
	"reflect"
	"strings"
	"testing"

	"consistory/api"
	"consistory/net"
)

const most = 4096 // messages in flight

// classes: all that there are, of which an error has just one.
var classes = []api.Class{
	api.ErrSyntax, api.ErrLimit, api.ErrName, api.ErrType, api.ErrConstraint, api.ErrOverflow, api.ErrZero,
	api.ErrForm, api.ErrSum, api.ErrShort, api.ErrFile, api.ErrFull, api.ErrDown, api.ErrPlace,
	api.ErrNode, api.ErrLead, api.ErrWait, api.ErrBusy, api.ErrLine,
}

// classOf tells an error's class (0: none), and that it has no other one.
func classOf(t *testing.T, err error) api.Class {
	t.Helper()
	if err == nil {
		return 0
	}
	var c api.Class
	if !errors.As(err, &c) {
		t.Fatalf("an error without a class: %v", err)
	}
	for _, other := range classes {
		if errors.Is(err, other) != (other == c) {
			t.Fatalf("%v: of class %d, and of %d", err, c, other)
		}
	}
	return c
}

// want holds an error's class against the right one.
func want(t *testing.T, what string, err error, c api.Class) {
	t.Helper()
	if got := classOf(t, err); got != c {
		t.Errorf("%s: class %d, want %d", what, got, c)
	}
}

// done fails if a call that must be done wasn't.
func done(t *testing.T, errs ...error) {
	t.Helper()
	for i, err := range errs {
		if err != nil {
			t.Fatalf("call %d: %v", i, err)
		}
	}
}

// vote: a message that is told from others by its term.
func vote(from, to int, term uint64) api.Msg {
	return api.Msg{Kind: api.MVote, From: from, To: to, Term: term}
}

// netOf: a net with messages of these terms.
func netOf(t *testing.T, terms ...uint64) *net.Net {
	t.Helper()
	n := net.New()
	for _, term := range terms {
		done(t, n.Send(vote(1, 2, term)))
	}
	return n
}

// show tells the terms of what is in flight.
func show(t *testing.T, n *net.Net) string {
	t.Helper()
	var l []string
	for i := range n.Len() {
		m, err := n.Peek(i)
		done(t, err)
		l = append(l, fmt.Sprint(m.Term))
	}
	return strings.Join(l, " ")
}

// wantShow holds what is in flight against the terms that must be.
func wantShow(t *testing.T, what string, n *net.Net, right string) {
	t.Helper()
	if got := show(t, n); got != right {
		t.Errorf("%s: %q in flight, want %q", what, got, right)
	}
}

// fill sends messages of term 0 until only left more have room.
func fill(t *testing.T, n *net.Net, left int) {
	t.Helper()
	for n.Len() < most-left {
		done(t, n.Send(vote(1, 2, 0)))
	}
}

// someMsg: a message in which no field is zero.
func someMsg() api.Msg {
	return api.Msg{
		Kind: api.MReply, From: -1, To: 1000, Term: 1 << 40, Index: 2, LogTerm: 3,
		Entries: []api.Entry{{Term: 4}, {Term: 5, Kind: api.EnCommand, Client: 6, Seq: 7, Sql: "x"}},
		Commit:  8, Round: 9, OK: true, Off: 10, Data: []byte("data\x00"), Done: true, Client: 11, Seq: 12, Sql: "s",
		Reply: api.Reply{Seq: 13, Class: api.ErrZero, Index: 14, Answer: api.Answer{
			Cols: []string{"a", "", "c"}, Rows: [][]api.Value{{{Kind: api.Int, Int: 1}, {Kind: api.Text, Text: "t"}}, nil, {{}}}, Count: 15}},
		Hint: 16,
	}
}

// plain tells m with nil for all empty lists.
func plain(m api.Msg) api.Msg {
	if len(m.Entries) == 0 {
		m.Entries = nil
	}
	if len(m.Data) == 0 {
		m.Data = nil
	}
	a := &m.Reply.Answer
	if len(a.Cols) == 0 {
		a.Cols = nil
	}
	rows := a.Rows
	a.Rows = nil
	for _, l := range rows {
		if len(l) == 0 {
			l = nil
		}
		a.Rows = append(a.Rows, l)
	}
	return m
}

func same(a, b api.Msg) bool { return reflect.DeepEqual(plain(a), plain(b)) }

// chanceMsg: a message between few, with the number id.
func chanceMsg(r *rand.Rand, id uint64) api.Msg {
	m := api.Msg{
		Kind: 1 + r.Intn(8), From: r.Intn(4) - 1, To: r.Intn(4) - 1, Term: id, Index: r.Uint64() >> r.Intn(64), OK: r.Intn(2) == 1,
		Off: r.Intn(100), Sql: strings.Repeat("s", r.Intn(30)), Hint: r.Intn(4) - 1, Reply: api.Reply{Seq: id, Class: api.Class(r.Intn(101))},
	}
	for range r.Intn(4) {
		m.Entries = append(m.Entries, api.Entry{Term: id, Kind: api.EnCommand, Seq: uint64(r.Intn(9)), Sql: "e"})
		m.Data = append(m.Data, byte(r.Intn(256)))
		m.Reply.Answer.Cols = append(m.Reply.Answer.Cols, fmt.Sprint("c", r.Intn(9)))
		m.Reply.Answer.Rows = append(m.Reply.Answer.Rows, make([]api.Value, r.Intn(3)))
	}
	return m
}
