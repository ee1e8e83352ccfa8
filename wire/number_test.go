package wire_test

import (
	"encoding/binary"
	"fmt"
	"strings"
	"testing"

	"consistory/api"
	"consistory/wire"
)

// edges: the numbers around each power of two.
func edges() []uint64 {
	l := []uint64{0}
	for i := range 64 {
		p := uint64(1) << i
		l = append(l, p-1, p, p+1, p|p>>1)
	}
	return append(l, 1<<64-1, 1<<64-2)
}

func TestUint(t *testing.T) {
	for n, want := range map[uint64]string{0: "00", 1: "01", 127: "7f", 128: "8001", 300: "ac02", 16383: "ff7f", 16384: "808001", 1 << 63: "80808080808080808001", 1<<64 - 1: "ffffffffffffffffff01"} {
		if got := fmt.Sprintf("%x", wire.PutUint(n)); got != want {
			t.Errorf("P1.1: PutUint(%d): %s, want %s", n, got, want)
		}
	}
	for _, n := range edges() {
		b := wire.PutUint(n)
		if string(b) != string(binary.AppendUvarint(nil, n)) {
			t.Errorf("P1.1: PutUint(%d): %x", n, b)
		}
		for _, behind := range []string{"", "\x00", "\x80", "\xff\xff"} {
			got, size, err := wire.Uint(append(b[:len(b):len(b)], behind...))
			if got != n || size != len(b) || err != nil {
				t.Errorf("P1.1: Uint(%x): %d, %d, %v", b, got, size, err)
			}
		}
		for k := range b {
			got, size, err := wire.Uint(b[:k])
			if got != 0 || size != 0 || classOf(t, err) != api.ErrShort {
				t.Errorf("P1.1: Uint(%x): %d, %d, %v", b[:k], got, size, err)
			}
			wantPlace(t, err, k)
		}
	}
}

func TestUintRefuses(t *testing.T) {
	nine := strings.Repeat("\x80", 9)
	for _, c := range []struct {
		b    string
		want api.Class
		at   int
	}{
		{"", api.ErrShort, 0},
		{nine, api.ErrShort, 9},
		{"\x80\x00", api.ErrForm, 1},
		{"\xff\xff\x00", api.ErrForm, 2},
		{nine + "\x00", api.ErrForm, 9},
		{nine + "\x02", api.ErrForm, 9},
		{nine + "\x7f", api.ErrForm, 9},
		{nine + "\x80", api.ErrForm, 9},
		{nine + "\x81", api.ErrForm, 9},
		{strings.Repeat("\xff", 10), api.ErrForm, 9},
		{strings.Repeat("\xff", 30) + "\x01", api.ErrForm, 9},
	} {
		n, size, err := wire.Uint([]byte(c.b))
		if n != 0 || size != 0 || classOf(t, err) != c.want {
			t.Errorf("P1.1: Uint(%x): %d, %d, %v", c.b, n, size, err)
		}
		wantPlace(t, err, c.at)
		i, size, err := wire.Int([]byte(c.b))
		if i != 0 || size != 0 || classOf(t, err) != c.want {
			t.Errorf("P1.1: Int(%x): %d, %d, %v", c.b, i, size, err)
		}
	}
}

func TestInt(t *testing.T) {
	for n, want := range map[int64]string{0: "00", -1: "01", 1: "02", -2: "03", 63: "7e", -64: "7f", 64: "8001", 1<<63 - 1: "feffffffffffffffff01", -1 << 63: "ffffffffffffffffff01"} {
		if got := fmt.Sprintf("%x", wire.PutInt(n)); got != want {
			t.Errorf("P1.1: PutInt(%d): %s, want %s", n, got, want)
		}
	}
	for _, u := range edges() {
		for _, n := range []int64{int64(u), -int64(u), ^int64(u)} {
			b := wire.PutInt(n)
			got, size, err := wire.Int(append(b[:len(b):len(b)], 0x80))
			if got != n || size != len(b) || err != nil {
				t.Errorf("P1.1: Int of PutInt(%d): %d, %d, %v", n, got, size, err)
			}
			if string(b) != string(binary.AppendVarint(nil, n)) {
				t.Errorf("P1.1: PutInt(%d): %x", n, b)
			}
		}
	}
}

func TestNumbersHaveOneSpelling(t *testing.T) {
	read := func(b []byte) (int, []byte, error) {
		n, size, err := wire.Uint(b)
		return size, wire.PutUint(n), err
	}
	everyBytes(allBytes(), 2, func(b []byte) { checkBeginnings(t, read, b) })
	everyBytes("\x00\x01\x02\x7f\x80\xff", 5, func(b []byte) { checkBeginnings(t, read, b) })
	everyBytes("\x00\x01\x02\x7f\x80\xff", 4, func(b []byte) {
		checkBeginnings(t, read, append([]byte("\x80\xff\x80\xff\x80\xff\x80"), b...))
	})
}

func TestText(t *testing.T) {
	for _, s := range []string{"", "ab", "\x00\xff", strings.Repeat("x", 127), strings.Repeat("x", 128), strings.Repeat("x", 2000)} {
		b := wire.PutText(s)
		if string(b) != string(wire.PutUint(uint64(len(s))))+s {
			t.Errorf("P1.1: PutText(%q): %x", s, b)
		}
		got, size, err := wire.Text(append(b[:len(b):len(b)], 0x80))
		if got != s || size != len(b) || err != nil {
			t.Errorf("P1.1: Text of %q: %q, %d, %v", s, got, size, err)
		}
		for k := range b {
			got, size, err := wire.Text(b[:k])
			if got != "" || size != 0 || classOf(t, err) != api.ErrShort {
				t.Errorf("P1.1: Text of %q cut at %d: %q, %d, %v", s, k, got, size, err)
			}
			wantPlace(t, err, k)
		}
	}
	long := strings.Repeat("x", 2001)
	if b := wire.PutText(long); string(b) != "\xd1\x0f"+long {
		t.Errorf("P1.1: PutText of 2001 bytes: %d bytes", len(b))
	}
}

func TestTextRefuses(t *testing.T) {
	most := strings.Repeat("\xff", 9) + "\x01"
	for _, c := range []struct {
		b    string
		want api.Class
	}{
		{"\xd1\x0f", api.ErrForm},
		{"\xd1\x0f" + strings.Repeat("x", 2001), api.ErrForm},
		{"\xd0\x0f", api.ErrShort},
		{most, api.ErrForm},
		{strings.Repeat("\xff", 8) + "\x7f", api.ErrForm},
		{"\x80\x80", api.ErrShort}, // the number's own error goes ahead of what it might tell
		{"\x80\x00", api.ErrForm},
		{"\x81\x00a", api.ErrForm},
		{strings.Repeat("\x80", 10), api.ErrForm},
	} {
		s, size, err := wire.Text([]byte(c.b))
		if s != "" || size != 0 || classOf(t, err) != c.want {
			t.Errorf("P1.1: Text(%.24x): %q, %d, %v", c.b, s, size, err)
		}
	}
}
