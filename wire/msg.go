package wire

import (
	"bytes"

	"consistory/api"
)

// What a message may have at most.
const (
	nobody      = -1
	mostNode    = 1000
	mostEntries = 1000
	mostClass   = 100
	mostCols    = 64
	mostRows    = 20000
)

// PutMsg: all fields of m, whatever its kind, so that all of them come back.
func PutMsg(m api.Msg) ([]byte, error) {
	var w writer
	w.between(m.Kind, api.MVote, api.MReply)
	w.between(m.From, nobody, mostNode)
	w.between(m.To, nobody, mostNode)
	w.number(m.Term)
	w.number(m.Index)
	w.number(m.LogTerm)
	list(&w, m.Entries, mostEntries, w.entry)
	w.number(m.Commit)
	w.number(m.Round)
	w.truth(m.OK)
	w.between(m.Off, 0, api.MaxFrame)
	w.data(m.Data, api.MaxFrame)
	w.truth(m.Done)
	w.number(m.Client)
	w.number(m.Seq)
	w.text(m.Sql, api.MaxSQL)
	w.reply(m.Reply)
	w.between(m.Hint, nobody, mostNode)
	return w.done()
}

// Msg: the message whose bytes are just b.
func Msg(b []byte) (api.Msg, error) {
	r := reader{b: b}
	m := r.msg()
	if len(r.rest()) > 0 {
		r.fail(fault(api.ErrForm, r.at))
	}
	if r.err != nil {
		return api.Msg{}, formless(r.err)
	}
	return m, nil
}

func (r *reader) msg() api.Msg {
	var m api.Msg
	m.Kind = r.between(api.MVote, api.MReply)
	m.From = r.between(nobody, mostNode)
	m.To = r.between(nobody, mostNode)
	m.Term = r.number()
	m.Index = r.number()
	m.LogTerm = r.number()
	m.Entries = listOf(r, mostEntries, r.entry)
	m.Commit = r.number()
	m.Round = r.number()
	m.OK = r.truth()
	m.Off = r.between(0, api.MaxFrame)
	m.Data = bytes.Clone(r.data(api.MaxFrame))
	m.Done = r.truth()
	m.Client = r.number()
	m.Seq = r.number()
	m.Sql = r.text(api.MaxSQL)
	m.Reply = r.reply()
	m.Hint = r.between(nobody, mostNode)
	return m
}

func (w *writer) reply(p api.Reply) {
	w.number(p.Seq)
	w.between(int(p.Class), 0, mostClass)
	list(w, p.Answer.Cols, mostCols, w.column)
	list(w, p.Answer.Rows, mostRows, w.row)
	w.between(p.Answer.Count, 0, api.MaxFrame)
	w.number(p.Index)
}

func (r *reader) reply() api.Reply {
	var p api.Reply
	p.Seq = r.number()
	p.Class = api.Class(r.between(0, mostClass))
	p.Answer.Cols = listOf(r, mostCols, r.column)
	p.Answer.Rows = listOf(r, mostRows, r.row)
	p.Answer.Count = r.between(0, api.MaxFrame)
	p.Index = r.number()
	return p
}

func (w *writer) column(name string) { w.text(name, api.MaxSQL) }

func (r *reader) column() string { return r.text(api.MaxSQL) }
