package wire_test

import (
	"math/rand"
	"reflect"
	"strings"
	"testing"

	"consistory/api"
	"consistory/wire"
)

// someMsg: a message in which no field is zero.
func someMsg() api.Msg {
	return api.Msg{
		Kind: api.MReply, From: -1, To: 1000, Term: 1 << 40, Index: 2, LogTerm: 3,
		Entries: []api.Entry{{Term: 4}, {Term: 5, Kind: api.EnCommand, Client: 6, Seq: 7, Sql: "x"}},
		Commit:  8, Round: 9, OK: true, Off: 10, Data: []byte("data\x00"), Done: true, Client: 11, Seq: 12, Sql: "s",
		Reply: api.Reply{Seq: 13, Class: api.ErrZero, Index: 14, Answer: api.Answer{
			Cols: []string{"a", "", "c"}, Rows: [][]api.Value{row(integer(1), textOf("t")), nil, row(api.Value{})}, Count: 15}},
		Hint: 16,
	}
}

// comesBack tells m's bytes, if the message that they tell is m.
func comesBack(t *testing.T, m api.Msg) []byte {
	t.Helper()
	b, err := wire.PutMsg(m)
	if err != nil || len(b) == 0 {
		t.Fatalf("P1.4: PutMsg(%v): %v", m, err)
	}
	got, err := wire.Msg(b)
	if err != nil || !reflect.DeepEqual(plain(got), plain(m)) {
		t.Fatalf("P1.4: %v comes back as %v, %v", m, got, err)
	}
	return b
}

// plain tells m with nil for all empty lists.
func plain(m api.Msg) api.Msg {
	if len(m.Entries) == 0 {
		m.Entries = nil
	}
	if len(m.Data) == 0 {
		m.Data = nil
	}
	a := &m.Reply.Answer
	if len(a.Cols) == 0 {
		a.Cols = nil
	}
	rows := a.Rows
	a.Rows = nil
	for _, l := range rows {
		if len(l) == 0 {
			l = nil
		}
		a.Rows = append(a.Rows, l)
	}
	return m
}

func TestMsgComesBack(t *testing.T) {
	comesBack(t, someMsg())
	for kind := api.MVote; kind <= api.MReply; kind++ {
		comesBack(t, api.Msg{Kind: kind})
		m := someMsg()
		m.Kind = kind
		comesBack(t, m)
	}
}

// TestMsgFieldsAreTold sets each field of a message alone: whatever its kind, it comes back, by bytes of its own.
func TestMsgFieldsAreTold(t *testing.T) {
	full := someMsg()
	seen := map[string]string{}
	for _, kind := range []int{api.MVote, api.MReply} {
		for i := range reflect.TypeFor[api.Msg]().NumField() {
			m := api.Msg{Kind: kind}
			if name := reflect.TypeFor[api.Msg]().Field(i).Name; name != "Kind" {
				reflect.ValueOf(&m).Elem().Field(i).Set(reflect.ValueOf(full).Field(i))
				b := string(comesBack(t, m))
				if seen[b] != "" {
					t.Errorf("P1.6: %s and %s have the same bytes", seen[b], name)
				}
				seen[b] = name
			}
		}
	}
}

// limits: of each field the last that may be, and the first that may not.
func limits() map[string][]func(m *api.Msg, past bool) {
	one := func(past bool, n int) int {
		if past {
			return n + 1
		}
		return n
	}
	return map[string][]func(m *api.Msg, past bool){
		"kinds": {
			func(m *api.Msg, past bool) { m.Kind = one(past, 8) },
			func(m *api.Msg, past bool) { m.Kind = -one(past, -1) },
		},
		"numbers": {
			func(m *api.Msg, past bool) { m.From = one(past, 1000) },
			func(m *api.Msg, past bool) { m.From = -one(past, 1) },
			func(m *api.Msg, past bool) { m.To = one(past, 1000) },
			func(m *api.Msg, past bool) { m.To = -one(past, 1) },
			func(m *api.Msg, past bool) { m.Hint = one(past, 1000) },
			func(m *api.Msg, past bool) { m.Hint = -one(past, 1) },
			func(m *api.Msg, past bool) { m.Off = one(past, 262144) },
			func(m *api.Msg, past bool) { m.Off = -one(past, 0) },
			func(m *api.Msg, past bool) { m.Reply.Class = api.Class(one(past, 100)) },
			func(m *api.Msg, past bool) { m.Reply.Class = api.Class(-one(past, 0)) },
			func(m *api.Msg, past bool) { m.Reply.Answer.Count = one(past, 262144) },
			func(m *api.Msg, past bool) { m.Reply.Answer.Count = -one(past, 0) },
		},
		"lists": {
			func(m *api.Msg, past bool) { m.Entries = make([]api.Entry, one(past, 1000)) },
			func(m *api.Msg, past bool) { m.Data = make([]byte, one(past, 262144)) },
			func(m *api.Msg, past bool) { m.Sql = strings.Repeat("\xff", one(past, 2000)) },
			func(m *api.Msg, past bool) { m.Reply.Answer.Cols = make([]string, one(past, 64)) },
			func(m *api.Msg, past bool) { m.Reply.Answer.Cols[2] = strings.Repeat("c", one(past, 2000)) },
			func(m *api.Msg, past bool) { m.Reply.Answer.Rows = make([][]api.Value, one(past, 20000)) },
			func(m *api.Msg, past bool) { m.Reply.Answer.Rows[2] = values(one(past, 64)) },
		},
		"parts": {
			func(m *api.Msg, past bool) { m.Entries[1].Kind = one(past, 1) },
			func(m *api.Msg, past bool) { m.Entries[1].Sql = strings.Repeat("s", one(past, 2000)) },
			func(m *api.Msg, past bool) { m.Entries[0].Seq = uint64(one(past, 0)) },
			func(m *api.Msg, past bool) { m.Reply.Answer.Rows[2][0].Int = int64(one(past, 0)) },
			func(m *api.Msg, past bool) { m.Reply.Answer.Rows[0][1].Text = strings.Repeat("t", one(past, 40)) },
		},
	}
}

func TestMsgLimits(t *testing.T) {
	for name, l := range limits() {
		for i, set := range l {
			m := someMsg()
			set(&m, false)
			comesBack(t, m)
			m = someMsg()
			set(&m, true)
			if b, err := wire.PutMsg(m); len(b) != 0 || classOf(t, err) != api.ErrForm {
				t.Errorf("P1.4: %s, row %d, one past: %d bytes, %v", name, i, len(b), err)
			}
		}
	}
	for _, far := range []int{-1 << 63, -1 << 32, 1 << 32, 1<<32 + 1, 1<<63 - 1} {
		for i, set := range []func(m *api.Msg){
			func(m *api.Msg) { m.Kind = far },
			func(m *api.Msg) { m.From = far },
			func(m *api.Msg) { m.To = far },
			func(m *api.Msg) { m.Hint = far },
			func(m *api.Msg) { m.Off = far },
			func(m *api.Msg) { m.Reply.Class = api.Class(far) },
			func(m *api.Msg) { m.Reply.Answer.Count = far },
		} {
			m := someMsg()
			set(&m)
			if b, err := wire.PutMsg(m); len(b) != 0 || classOf(t, err) != api.ErrForm {
				t.Errorf("P1.4: %d, row %d: %d bytes, %v", far, i, len(b), err)
			}
		}
	}
}

func TestMsgOfCutBytes(t *testing.T) {
	b := comesBack(t, someMsg())
	for k := range b {
		m, err := wire.Msg(b[:k])
		if classOf(t, err) != api.ErrForm || !reflect.DeepEqual(m, api.Msg{}) {
			t.Errorf("P1.4: cut at %d: %v, %v", k, m, err)
		}
		wantPlace(t, err, k)
	}
	for n := range 256 {
		m, err := wire.Msg(append(b[:len(b):len(b)], byte(n)))
		if classOf(t, err) != api.ErrForm || !reflect.DeepEqual(m, api.Msg{}) {
			t.Errorf("P1.4: %02x behind it: %v, %v", n, m, err)
		}
		wantPlace(t, err, len(b))
	}
	if _, err := wire.Msg(nil); classOf(t, err) != api.ErrForm {
		t.Errorf("P1.4: of nothing: %v", err)
	}
}

// checkMsgBytes: b is a message's own bytes, or of no form.
func checkMsgBytes(t *testing.T, b []byte) {
	t.Helper()
	m, err := wire.Msg(b)
	if err != nil {
		if classOf(t, err) != api.ErrForm || !reflect.DeepEqual(m, api.Msg{}) {
			t.Fatalf("P1.4: Msg(%x): %v, %v", b, m, err)
		}
		return
	}
	if again, err := wire.PutMsg(m); err != nil || string(again) != string(b) {
		t.Fatalf("P1.6: %x and %x tell one message (%v)", b, again, err)
	}
}

func TestMsgsHaveOneSpelling(t *testing.T) {
	for _, m := range []api.Msg{someMsg(), {Kind: api.MVote}} {
		b := comesBack(t, m)
		for i := range b {
			for n := range 256 {
				x := append([]byte(nil), b...)
				x[i] = byte(n)
				checkMsgBytes(t, x)
				checkMsgBytes(t, append(append(b[:i:i], byte(n)), b[i:]...))
			}
			checkMsgBytes(t, append(b[:i:i], b[i+1:]...))
		}
	}
}

func TestMsgNilAndEmptyAreOne(t *testing.T) {
	a := api.Msg{Kind: api.MAppend, Reply: api.Reply{Answer: api.Answer{Rows: [][]api.Value{nil}}}}
	b := a
	b.Entries, b.Data = []api.Entry{}, []byte{}
	b.Reply.Answer = api.Answer{Cols: []string{}, Rows: [][]api.Value{{}}}
	if string(comesBack(t, a)) != string(comesBack(t, b)) {
		t.Error("P1.4: nil and empty lists have bytes of their own")
	}
}

func TestMsgByChance(t *testing.T) {
	r := rand.New(rand.NewSource(1))
	for range 2000 {
		comesBack(t, chanceMsg(r))
	}
}

func chanceNumber(r *rand.Rand) uint64 { return r.Uint64() >> r.Intn(64) }

func chanceText(r *rand.Rand, most int) string {
	b := make([]byte, r.Intn(most+1))
	for i := range b {
		b[i] = byte(1 + r.Intn(255))
	}
	return string(b)
}

func chanceRow(r *rand.Rand) []api.Value {
	l := values(r.Intn(6))
	for i := range l {
		l[i] = []api.Value{{}, truth(int64(r.Intn(2))), integer(int64(chanceNumber(r))), textOf(chanceText(r, 40))}[r.Intn(4)]
	}
	return l
}

func chanceMsg(r *rand.Rand) api.Msg {
	m := api.Msg{
		Kind: 1 + r.Intn(8), From: r.Intn(1002) - 1, To: r.Intn(1002) - 1, Term: chanceNumber(r), Index: chanceNumber(r), LogTerm: chanceNumber(r),
		Commit: chanceNumber(r), Round: chanceNumber(r), OK: r.Intn(2) == 1, Off: r.Intn(262145), Data: []byte(chanceText(r, 300)), Done: r.Intn(2) == 1,
		Client: chanceNumber(r), Seq: chanceNumber(r), Sql: chanceText(r, 200), Hint: r.Intn(1002) - 1,
		Reply: api.Reply{Seq: chanceNumber(r), Class: api.Class(r.Intn(101)), Index: chanceNumber(r), Answer: api.Answer{Count: r.Intn(262145)}},
	}
	for range r.Intn(4) {
		e := api.Entry{Term: chanceNumber(r)}
		if r.Intn(2) == 1 {
			e = api.Entry{Term: e.Term, Kind: api.EnCommand, Client: chanceNumber(r), Seq: chanceNumber(r), Sql: chanceText(r, 200)}
		}
		m.Entries = append(m.Entries, e)
		m.Reply.Answer.Cols = append(m.Reply.Answer.Cols, chanceText(r, 30))
		m.Reply.Answer.Rows = append(m.Reply.Answer.Rows, chanceRow(r))
	}
	return m
}

func FuzzMsg(f *testing.F) {
	b, _ := wire.PutMsg(someMsg())
	f.Add(b)
	b, _ = wire.PutMsg(api.Msg{Kind: api.MVote})
	f.Add(b)
	f.Fuzz(checkMsgBytes)
}
