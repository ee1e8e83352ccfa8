package wire_test

import (
	"slices"
	"strings"
	"testing"

	"consistory/api"
	"consistory/wire"
)

func truth(n int64) api.Value        { return api.Value{Kind: api.Bool, Int: n} }
func integer(n int64) api.Value      { return api.Value{Kind: api.Int, Int: n} }
func textOf(s string) api.Value      { return api.Value{Kind: api.Text, Text: s} }
func values(n int) []api.Value       { return make([]api.Value, n) }
func row(l ...api.Value) []api.Value { return l }

func readRow(b []byte) (int, []byte, error) {
	l, size, err := wire.Row(b)
	again, _ := wire.PutRow(l)
	return size, again, err
}

func TestRow(t *testing.T) {
	longest := strings.Repeat("z", 40)
	full := values(64)
	for i := range full {
		full[i] = []api.Value{{}, truth(1), integer(-1 << 63), textOf(longest)}[i%4]
	}
	for _, c := range []struct {
		l    []api.Value
		want string
	}{
		{nil, "\x00"},
		{row(), "\x00"},
		{row(api.Value{}), "\x01\x00"},
		{row(integer(5), api.Value{}), "\x02\x02\x0a\x00"},
		{row(truth(0), truth(1)), "\x02\x01\x00\x01\x01"},
		{row(integer(-1), integer(64)), "\x02\x02\x01\x02\x80\x01"},
		{row(textOf(""), textOf("a\xff\n")), "\x02\x03\x00\x03\x03a\xff\n"},
		{row(textOf(longest)), "\x01\x03\x28" + longest},
		{values(64), "\x40" + strings.Repeat("\x00", 64)},
		{full, "\x40" + strings.Repeat("\x00\x01\x01\x02\xff\xff\xff\xff\xff\xff\xff\xff\xff\x01\x03\x28"+longest, 16)},
	} {
		b, err := wire.PutRow(c.l)
		if string(b) != c.want || err != nil {
			t.Errorf("P1.2: PutRow(%v): %x, %v", c.l, b, err)
		}
		for _, behind := range []string{"", "\x00", "\x80", "\xff"} {
			got, size, err := wire.Row([]byte(c.want + behind))
			if !slices.Equal(got, c.l) || size != len(c.want) || err != nil {
				t.Errorf("P1.2: Row(%x): %v, %d, %v", c.want, got, size, err)
			}
		}
		for k := range c.want {
			got, size, err := wire.Row([]byte(c.want[:k]))
			if len(got) != 0 || size != 0 || classOf(t, err) != api.ErrShort {
				t.Errorf("P1.2: Row(%x): %v, %d, %v", c.want[:k], got, size, err)
			}
			wantPlace(t, err, k)
		}
	}
}

func TestPutRowRefuses(t *testing.T) {
	for _, v := range []api.Value{
		{Int: 1}, {Int: -1}, {Text: "x"},
		truth(2), truth(-1), {Kind: api.Bool, Text: "x"},
		{Kind: api.Int, Text: "x"}, {Kind: api.Int, Int: 3, Text: "x"},
		{Kind: api.Text, Int: 1}, textOf("\x00"), textOf("ab\x00c"), textOf(strings.Repeat("z", 41)),
		{Kind: 4}, {Kind: -1}, {Kind: 256}, {Kind: 257}, {Kind: 1 << 62},
	} {
		for _, l := range [][]api.Value{row(v), row(integer(1), v), row(v, integer(1))} {
			b, err := wire.PutRow(l)
			if len(b) != 0 || classOf(t, err) != api.ErrForm {
				t.Errorf("P1.2: PutRow(%v): %x, %v", l, b, err)
			}
		}
	}
	for _, n := range []int{65, 128, 1000} {
		if b, err := wire.PutRow(values(n)); len(b) != 0 || classOf(t, err) != api.ErrForm {
			t.Errorf("P1.2: PutRow of %d values: %x, %v", n, b, err)
		}
	}
	_, err := wire.PutRow(row(integer(5), truth(1), truth(2)))
	wantPlace(t, err, 5)
}

func TestRowRefuses(t *testing.T) {
	nine := strings.Repeat("\x80", 9)
	for _, c := range []struct {
		b    string
		want api.Class
		at   int
	}{
		{"", api.ErrShort, 0},
		{"\x40", api.ErrShort, 1},
		{"\x41", api.ErrForm, 0},
		{"\x80", api.ErrForm, 0}, // no number of at most 64 begins so
		{"\x81\x00", api.ErrForm, 1},
		{"\xff\xff\xff\xff\xff\xff\xff\xff\xff\x01", api.ErrForm, 0},
		{"\x01\x04", api.ErrForm, 1},
		{"\x01\x80", api.ErrForm, 1},
		{"\x01\x83\x00", api.ErrForm, 2},
		{"\x01\xff", api.ErrForm, 1},
		{"\x01\x01\x02", api.ErrForm, 2},
		{"\x01\x01\x80", api.ErrForm, 2},
		{"\x01\x01\x81\x00", api.ErrForm, 3},
		{"\x01\x02\x80", api.ErrShort, 3},
		{"\x01\x02" + nine, api.ErrShort, 11},
		{"\x01\x02" + nine + "\x02", api.ErrForm, 11},
		{"\x01\x02" + nine + "\x80", api.ErrForm, 11},
		{"\x01\x02\x80\x00", api.ErrForm, 3},
		{"\x01\x03\x28", api.ErrShort, 3},
		{"\x01\x03\x29", api.ErrForm, 2},
		{"\x01\x03\x80", api.ErrForm, 2},
		{"\x01\x03\x03a\x00b", api.ErrForm, 4},
		{"\x01\x03\x03a\x00", api.ErrForm, 4}, // cut, but nothing that begins so may be
		{"\x01\x03\x03\x00", api.ErrForm, 3},
		{"\x01\x03\x03ab", api.ErrShort, 5},
		{"\x02\x03\x01a\x00\x00", 0, 0},
		{"\x02\x03\x01a\x07\x00", api.ErrForm, 4},
		{"\x02\x00\x03\x02a", api.ErrShort, 5},
	} {
		l, size, err := wire.Row([]byte(c.b))
		if classOf(t, err) != c.want {
			t.Errorf("P1.2: Row(%x): %v", c.b, err)
		}
		if err == nil {
			continue
		}
		if len(l) != 0 || size != 0 {
			t.Errorf("P1.2: Row(%x): %v, %d", c.b, l, size)
		}
		wantPlace(t, err, c.at)
	}
}

func TestRowsHaveOneSpelling(t *testing.T) {
	everyBytes(allBytes(), 1, func(b []byte) { checkBeginnings(t, readRow, b) })
	few := "\x00\x01\x02\x03\x04\x28\x29\x40\x41a\x7f\x80\x81\xff"
	everyBytes(few, 3, func(b []byte) { checkBeginnings(t, readRow, b) })
	everyBytes("\x00\x01\x02\x03\x80\x81a", 4, func(b []byte) {
		checkBeginnings(t, readRow, append([]byte("\x02"), b...))
	})
}

func FuzzRow(f *testing.F) {
	f.Add([]byte("\x02\x02\x0a\x00"))
	f.Add([]byte("\x03\x03\x02ab\x01\x01\x02\x80"))
	f.Fuzz(func(t *testing.T, b []byte) { checkBeginnings(t, readRow, b) })
}
