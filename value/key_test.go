package value_test

import (
	"bytes"
	"math"
	"math/rand"
	"slices"
	"strings"
	"testing"

	"consistory/api"
	"consistory/value"
)

func TestKey(t *testing.T) {
	longest := strings.Repeat("z", api.MaxText)
	for _, c := range []struct {
		l    []api.Value
		want string
	}{
		{nil, ""},
		{row(), ""},
		{row(null), "\x00"},
		{row(no), "\x01\x00"},
		{row(yes), "\x01\x01"},
		{row(integer(0)), "\x02\x80\x00\x00\x00\x00\x00\x00\x00"},
		{row(integer(-1)), "\x02\x7f\xff\xff\xff\xff\xff\xff\xff"},
		{row(integer(0x0102030405060708)), "\x02\x81\x02\x03\x04\x05\x06\x07\x08"},
		{row(integer(math.MinInt64)), "\x02\x00\x00\x00\x00\x00\x00\x00\x00"},
		{row(integer(math.MaxInt64)), "\x02\xff\xff\xff\xff\xff\xff\xff\xff"},
		{row(textOf("")), "\x03\x00"},
		{row(textOf("a\xff\x01")), "\x03a\xff\x01\x00"},
		{row(textOf(longest)), "\x03" + longest + "\x00"},
		{row(textOf("a"), null, yes, textOf("")), "\x03a\x00\x00\x01\x01\x03\x00"},
		{make([]api.Value, 16), strings.Repeat("\x00", 16)},
		{slices.Repeat(row(textOf(longest), integer(1)), 8), strings.Repeat("\x03"+longest+"\x00\x02\x80\x00\x00\x00\x00\x00\x00\x01", 8)},
	} {
		b, err := value.Key(c.l)
		if string(b) != c.want || err != nil {
			t.Errorf("P6.4: Key(%v): %x, %v", c.l, b, err)
		}
		l, err := value.Unkey([]byte(c.want))
		if !slices.Equal(l, c.l) || err != nil {
			t.Errorf("P6.4: Unkey(%x): %v, %v", c.want, l, err)
		}
	}
}

// wantNoKey fails if Key doesn't answer ErrForm, and nothing beside it.
func wantNoKey(t *testing.T, l []api.Value) {
	t.Helper()
	if b, err := value.Key(l); len(b) != 0 || classOf(t, err) != api.ErrForm {
		t.Errorf("P6.4: Key(%v): %x, %v", l, b, err)
	}
}

func TestKeyRefuses(t *testing.T) {
	for _, n := range []int{17, 18, 64, 65, 1000} {
		wantNoKey(t, make([]api.Value, n))
	}
	for _, w := range wrong() {
		wantNoKey(t, row(w))
		wantNoKey(t, row(w, integer(1)))
		wantNoKey(t, row(integer(1), w))
		wantNoKey(t, append(make([]api.Value, 15), w))
		wantNoKey(t, append(make([]api.Value, 16), w))
	}
}

func TestUnkeyRefuses(t *testing.T) {
	seven, forty := strings.Repeat("\x80", 7), strings.Repeat("a", 40)
	sixteen := strings.Repeat("\x00", 16)
	for _, s := range []string{
		"\x04", "\x04\x00", "\x05", "\x80", "\xff", "\x00\x04", "a",
		"\x01", "\x01\x02", "\x01\x80", "\x01\xff", "\x00\x01",
		"\x02", "\x02\x80", "\x02" + seven, "\x00\x02" + seven,
		"\x03", "\x03a", "\x03" + forty, "\x03" + forty + "a", "\x03" + forty + "a\x00", "\x03a\x00\x03", "\x03" + strings.Repeat("b", 1000) + "\x00",
		sixteen + "\x00", sixteen + "\x01\x00", sixteen + "\x01", sixteen + "\x04", sixteen + sixteen, sixteen[1:] + "\x03\x00\x03\x00",
	} {
		if l, err := value.Unkey([]byte(s)); len(l) != 0 || classOf(t, err) != api.ErrForm {
			t.Errorf("P6.4: Unkey(%x): %v, %v", s, l, err)
		}
	}
}

// modelKey: one value's key, by the words of P6.4.
func modelKey(v api.Value) string {
	switch v.Kind {
	case api.Null:
		return "\x00"
	case api.Bool:
		return "\x01" + string([]byte{byte(v.Int)})
	case api.Int:
		b := []byte{2, 0, 0, 0, 0, 0, 0, 0, 0}
		n := uint64(v.Int) + 1<<63
		for i := 8; i > 0; i-- {
			b[i] = byte(n % 256)
			n /= 256
		}
		return string(b)
	}
	return "\x03" + v.Text + "\x00"
}

// isKey: whether b is some row's key, found by splitting it in all ways into keys of single values.
func isKey(b string, most int) bool {
	if b == "" {
		return true
	}
	if most == 0 {
		return false
	}
	for n := 1; n <= len(b); n++ {
		if isOne(b[:n]) && isKey(b[n:], most-1) {
			return true
		}
	}
	return false
}

// isOne: whether b is the key of one value.
func isOne(b string) bool {
	last := len(b) - 1
	switch b[0] {
	case 0:
		return len(b) == 1
	case 1:
		return len(b) == 2 && b[1] <= 1
	case 2:
		return len(b) == 9
	case 3:
		return len(b) >= 2 && len(b) <= 42 && strings.IndexByte(b, 0) == last
	}
	return false
}

// checkUnkey holds Unkey at b against isKey, and Key against what it answers.
func checkUnkey(t *testing.T, b []byte) {
	t.Helper()
	l, err := value.Unkey(b)
	if right := isKey(string(b), 16); (classOf(t, err) == 0) != right {
		t.Fatalf("P6.4: Unkey(%x): %v, %v; a key: %t", b, l, err, right)
	}
	if err != nil {
		if len(l) != 0 || classOf(t, err) != api.ErrForm {
			t.Fatalf("P6.4: Unkey(%x): %v, %v", b, l, err)
		}
		return
	}
	if again, err := value.Key(l); !bytes.Equal(again, b) || err != nil {
		t.Fatalf("P6.4: Key(Unkey(%x)): %x, %v", b, again, err)
	}
}

// everyBytes calls visit with all bytes of at most most bytes of the alphabet.
func everyBytes(alphabet string, most int, visit func([]byte)) {
	var grow func(b []byte)
	grow = func(b []byte) {
		visit(b)
		for i := 0; i < len(alphabet) && len(b) < most; i++ {
			grow(append(b[:len(b):len(b)], alphabet[i]))
		}
	}
	grow(nil)
}

func TestUnkeyOfAllShortBytes(t *testing.T) {
	all := make([]byte, 256)
	for i := range all {
		all[i] = byte(i)
	}
	everyBytes(string(all), 2, func(b []byte) { checkUnkey(t, b) })
	everyBytes("\x00\x01\x02\x03\x04a", 6, func(b []byte) { checkUnkey(t, b) })
	everyBytes("\x00\x03", 12, func(b []byte) { checkUnkey(t, b) })
	everyBytes("\x00\x01\x02\x03", 3, func(b []byte) {
		checkUnkey(t, append([]byte("\x02\x80\x00\x00\x00\x00\x00"), b...))
	})
	everyBytes("\x00\x01\x03a", 4, func(b []byte) {
		checkUnkey(t, append(bytes.Repeat([]byte("\x00"), 14), b...))
		checkUnkey(t, append([]byte("\x03"+strings.Repeat("b", 38)), b...))
	})
}

// TestUnkeyOfCutAndLongKeys: each beginning of a key, and each key with a byte more.
func TestUnkeyOfCutAndLongKeys(t *testing.T) {
	r := rand.New(rand.NewSource(3))
	for range 300 {
		b, err := value.Key(chanceRow(r, r.Intn(17)))
		if err != nil {
			t.Fatal(err)
		}
		for k := range b {
			checkUnkey(t, b[:k])
		}
		for n := range 5 {
			checkUnkey(t, append(b[:len(b):len(b)], byte(n)))
		}
	}
}

func TestKeysComeBack(t *testing.T) {
	r := rand.New(rand.NewSource(4))
	for range 20000 {
		l := chanceRow(r, r.Intn(17))
		right := ""
		for _, v := range l {
			right += modelKey(v)
		}
		b, err := value.Key(l)
		if string(b) != right || err != nil {
			t.Fatalf("P6.4: Key(%v): %x, %v", l, b, err)
		}
		got, err := value.Unkey(b)
		if !slices.Equal(got, l) || err != nil {
			t.Fatalf("P6.4: Unkey(%x): %v, %v", b, got, err)
		}
	}
}

// checkOrder holds the order of two rows' keys against theirs.
func checkOrder(t *testing.T, a, b []api.Value) {
	t.Helper()
	x, err := value.Key(a)
	y, other := value.Key(b)
	if err != nil || other != nil || bytes.Compare(x, y) != value.Rows(a, b) {
		t.Fatalf("P6.6: %v, %v: %x, %x; %v, %v", a, b, x, y, err, other)
	}
}

func TestKeysStandAsRowsDo(t *testing.T) {
	l := rising()
	for _, a := range l {
		for _, b := range l {
			checkOrder(t, row(a), row(b))
			checkOrder(t, row(a, textOf("\xff")), row(b, null))
			checkOrder(t, row(integer(1), a), row(integer(1), b))
			checkOrder(t, row(textOf("a"), a, no), row(textOf("a"), b, yes))
		}
	}
	r := rand.New(rand.NewSource(5))
	for range 50000 {
		n := r.Intn(17)
		a, b := chanceRow(r, n), chanceRow(r, n)
		copy(b[:r.Intn(n+1)], a)
		checkOrder(t, a, b)
	}
}

func FuzzUnkey(f *testing.F) {
	f.Add([]byte("\x03a\x00\x00\x01\x01\x03\x00"))
	f.Add([]byte("\x02\x80\x00\x00\x00\x00\x00\x00\x05\x01\x00"))
	f.Fuzz(func(t *testing.T, b []byte) { checkUnkey(t, b) })
}
