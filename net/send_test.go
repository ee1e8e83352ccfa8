package net_test

import (
	"errors"
	"reflect"
	"strings"
	"testing"

	"consistory/api"
	"consistory/net"
	"consistory/wire"
)

// edges: changes of a message, each up to the last that may be, or to the first that may not (by: 1).
func edges() []func(m *api.Msg, by int) {
	return []func(m *api.Msg, by int){
		func(m *api.Msg, by int) { m.Kind = api.MVote - by },
		func(m *api.Msg, by int) { m.Kind = api.MReply + by },
		func(m *api.Msg, by int) { m.From = -1 - by },
		func(m *api.Msg, by int) { m.From = 1000 + by },
		func(m *api.Msg, by int) { m.To = -1 - by },
		func(m *api.Msg, by int) { m.To = 1000 + by },
		func(m *api.Msg, by int) { m.Hint = -1 - by },
		func(m *api.Msg, by int) { m.Hint = 1000 + by },
		func(m *api.Msg, by int) { m.Off = -by },
		func(m *api.Msg, by int) { m.Off = api.MaxFrame + by },
		func(m *api.Msg, by int) { m.Data = make([]byte, api.MaxFrame+by) },
		func(m *api.Msg, by int) { m.Sql = strings.Repeat("s", api.MaxSQL+by) },
		func(m *api.Msg, by int) { m.Entries = make([]api.Entry, 1000+by) },
		func(m *api.Msg, by int) { m.Entries[1].Kind = api.EnCommand + by },
		func(m *api.Msg, by int) { m.Entries[0].Client = uint64(by) },
		func(m *api.Msg, by int) { m.Entries[1].Sql = strings.Repeat("s", api.MaxSQL+by) },
		func(m *api.Msg, by int) { m.Reply.Class = api.Class(-by) },
		func(m *api.Msg, by int) { m.Reply.Class = api.Class(100 + by) },
		func(m *api.Msg, by int) { m.Reply.Answer.Count = -by },
		func(m *api.Msg, by int) { m.Reply.Answer.Count = api.MaxFrame + by },
		func(m *api.Msg, by int) { m.Reply.Answer.Cols = make([]string, 64+by) },
		func(m *api.Msg, by int) { m.Reply.Answer.Cols[1] = strings.Repeat("c", api.MaxSQL+by) },
		func(m *api.Msg, by int) { m.Reply.Answer.Rows = make([][]api.Value, 20000+by) },
		func(m *api.Msg, by int) { m.Reply.Answer.Rows[1] = make([]api.Value, 64+by) },
		func(m *api.Msg, by int) { m.Reply.Answer.Rows[2][0].Int = int64(by) },
		func(m *api.Msg, by int) { m.Reply.Answer.Rows[0][1].Text = strings.Repeat("t", api.MaxText+by) },
	}
}

// TestSendEdges: what wire writes is in flight as it was sent; what it refuses isn't, and nothing else changes.
func TestSendEdges(t *testing.T) {
	n := netOf(t, 11)
	for i, set := range edges() {
		m := someMsg()
		set(&m, 0)
		want(t, "P5.1: Send of what may be", n.Send(m), 0)
		if got, err := n.Take(1); err != nil || !same(got, m) {
			t.Errorf("P5.2: edge %d doesn't come back: %v", i, err)
		}
		m = someMsg()
		set(&m, 1)
		if _, err := wire.PutMsg(m); err == nil {
			t.Fatalf("edge %d is none", i)
		}
		err := n.Send(m)
		want(t, "P5.1: Send of what may not be", err, api.ErrForm)
		var p *api.Placed
		if errors.As(err, &p) {
			t.Errorf("edge %d: %v tells a place in flight", i, err)
		}
		wantShow(t, "rule 4: a message that is refused", n, "11")
	}
	want(t, "P5.1: Send of no message", n.Send(api.Msg{}), api.ErrForm)
	if n.Find(0, 0) != -1 || n.Len() != 1 {
		t.Errorf("rule 4: %d in flight, one from 0 to 0 at %d", n.Len(), n.Find(0, 0))
	}
}

// TestEachFieldComesBack sets each field alone, of messages of all kinds.
func TestEachFieldComesBack(t *testing.T) {
	full := someMsg()
	fields := reflect.TypeFor[api.Msg]().NumField()
	for kind := api.MVote; kind <= api.MReply; kind++ {
		for i := range fields {
			m := api.Msg{}
			reflect.ValueOf(&m).Elem().Field(i).Set(reflect.ValueOf(full).Field(i))
			m.Kind = kind
			n := net.New()
			done(t, n.Send(m), n.Copy(0))
			peeked, first := n.Peek(0)
			taken, second := n.Take(0)
			copied, third := n.Take(0)
			done(t, first, second, third)
			if !same(peeked, m) || !same(taken, m) || !same(copied, m) {
				t.Errorf("P5.2: %v comes back as %v, %v, %v", m, peeked, taken, copied)
			}
		}
	}
}

// TestEmptyLists: nil and empty are the same.
func TestEmptyLists(t *testing.T) {
	n := net.New()
	m := api.Msg{Kind: api.MReply, Entries: []api.Entry{}, Data: []byte{}}
	m.Reply.Answer = api.Answer{Cols: []string{}, Rows: [][]api.Value{{}, nil}}
	done(t, n.Send(m))
	if got, err := n.Take(0); err != nil || !same(got, m) {
		t.Errorf("rule 2: %v, %v", got, err)
	}
}
