package wire_test

import (
	"strings"
	"testing"

	"consistory/api"
	"consistory/wire"
)

func readEntry(b []byte) (int, []byte, error) {
	e, size, err := wire.Entry(b)
	again, _ := wire.PutEntry(e)
	return size, again, err
}

func TestEntry(t *testing.T) {
	longest := strings.Repeat("s", 2000)
	for _, c := range []struct {
		e    api.Entry
		want string
	}{
		{api.Entry{}, "\x00\x00"},
		{api.Entry{Term: 300}, "\xac\x02\x00"},
		{api.Entry{Term: 1<<64 - 1}, strings.Repeat("\xff", 9) + "\x01\x00"},
		{api.Entry{Kind: api.EnCommand}, "\x00\x01\x00\x00\x00"},
		{api.Entry{Term: 1, Kind: api.EnCommand, Client: 2, Seq: 300, Sql: "a\x00"}, "\x01\x01\x02\xac\x02\x02a\x00"},
		{api.Entry{Kind: api.EnCommand, Client: 1<<64 - 1, Seq: 1 << 63, Sql: longest}, "\x00\x01" + strings.Repeat("\xff", 9) + "\x01" + strings.Repeat("\x80", 9) + "\x01\xd0\x0f" + longest},
	} {
		b, err := wire.PutEntry(c.e)
		if string(b) != c.want || err != nil {
			t.Errorf("P1.3: PutEntry(%v): %x, %v", c.e, b, err)
		}
		for _, behind := range []string{"", "\x00", "\xff"} {
			got, size, err := wire.Entry([]byte(c.want + behind))
			if got != c.e || size != len(c.want) || err != nil {
				t.Errorf("P1.3: Entry(%.24x): %v, %d, %v", c.want, got, size, err)
			}
		}
		for k := range c.want {
			got, size, err := wire.Entry([]byte(c.want[:k]))
			if got != (api.Entry{}) || size != 0 || classOf(t, err) != api.ErrShort {
				t.Errorf("P1.3: Entry cut at %d: %v, %d, %v", k, got, size, err)
			}
			wantPlace(t, err, k)
		}
	}
}

func TestPutEntryRefuses(t *testing.T) {
	for _, e := range []api.Entry{
		{Kind: 2}, {Kind: -1}, {Kind: 256}, {Kind: 257},
		{Client: 1}, {Seq: 1}, {Sql: "x"}, {Sql: strings.Repeat("s", 2001)},
		{Kind: api.EnCommand, Sql: strings.Repeat("s", 2001)},
	} {
		if b, err := wire.PutEntry(e); len(b) != 0 || classOf(t, err) != api.ErrForm {
			t.Errorf("P1.3: PutEntry(%v): %x, %v", e, b, err)
		}
	}
}

func TestEntryRefuses(t *testing.T) {
	for _, c := range []struct {
		b    string
		want api.Class
		at   int
	}{
		{"", api.ErrShort, 0},
		{"\x80", api.ErrShort, 1},
		{"\x80\x00", api.ErrForm, 1},
		{strings.Repeat("\x80", 10), api.ErrForm, 9},
		{"\x00\x02", api.ErrForm, 1},
		{"\x00\x80", api.ErrForm, 1},
		{"\x00\x81\x00", api.ErrForm, 2},
		{"\x00\x01\x80", api.ErrShort, 3},
		{"\x00\x01\x00\x80\x00", api.ErrForm, 4},
		{"\x00\x01\x00\x00\xd1", api.ErrShort, 5},
		{"\x00\x01\x00\x00\xff", api.ErrShort, 5},
		{"\x00\x01\x00\x00\xd0\x0f", api.ErrShort, 6},
		{"\x00\x01\x00\x00\xd1\x0f", api.ErrForm, 4},
		{"\x00\x01\x00\x00\x80\x80", api.ErrForm, 4}, // no number of at most 2000 begins so
		{"\x00\x01\x00\x00\x81\x00", api.ErrForm, 5},
		{"\x00\x01\x00\x00\x02a", api.ErrShort, 6},
	} {
		e, size, err := wire.Entry([]byte(c.b))
		if e != (api.Entry{}) || size != 0 || classOf(t, err) != c.want {
			t.Errorf("P1.3: Entry(%x): %v, %d, %v", c.b, e, size, err)
		}
		wantPlace(t, err, c.at)
	}
}

func TestEntriesHaveOneSpelling(t *testing.T) {
	everyBytes(allBytes(), 1, func(b []byte) { checkBeginnings(t, readEntry, b) })
	few := "\x00\x01\x02\x03\x7f\x80\x81\xff"
	everyBytes(few, 3, func(b []byte) { checkBeginnings(t, readEntry, b) })
	everyBytes("\x00\x01\x0f\x10\x80\xcf\xd0\xd1", 3, func(b []byte) {
		checkBeginnings(t, readEntry, append([]byte("\x00\x01\x00\x00"), b...))
	})
}

func FuzzEntry(f *testing.F) {
	f.Add([]byte("\x01\x01\x02\xac\x02\x02a\x00"))
	f.Add([]byte("\xac\x02\x00"))
	f.Fuzz(func(t *testing.T, b []byte) { checkBeginnings(t, readEntry, b) })
}
