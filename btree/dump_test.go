package btree_test

import (
	"bytes"
	"encoding/binary"
	"encoding/hex"
	"errors"
	"fmt"
	"math"
	"math/rand"
	"slices"
	"strings"
	"testing"

	"consistory/api"
	"consistory/btree"
)

func TestDump(t *testing.T) {
	x := btree.New()
	for i, c := range []struct{ key, value, right string }{
		{"b", "1", "01 0162 0131"},
		{"a", "", "02 0161 00 0162 0131"},
		{"", "22", "03 00 023232 0161 00 0162 0131"},
		{"a\x00", "\x00\xff", "04 00 023232 0161 00 026100 0200ff 0162 0131"},
		{"b", "", "04 00 023232 0161 00 026100 0200ff 0162 00"},
		{"\xff", "x", "05 00 023232 0161 00 026100 0200ff 0162 00 01ff 0178"},
	} {
		x.Put([]byte(c.key), []byte(c.value))
		right, err := hex.DecodeString(strings.ReplaceAll(c.right, " ", ""))
		if got := x.Dump(); err != nil || !bytes.Equal(got, right) {
			t.Errorf("P7.3: Dump %d: %x, want %s", i, got, c.right)
		}
		if got := load(t, right); show(t, got) != show(t, x) {
			t.Errorf("P7.3: Load %d: %s", i, show(t, got))
		}
	}
	if got := btree.New().Dump(); !bytes.Equal(got, []byte{0}) {
		t.Errorf("P7.3: Dump of no keys: %x", got)
	}
	if y := load(t, []byte{0}); y.Len() != 0 || show(t, y) != "0: " || !y.Put(nil, nil) {
		t.Error("P7.3: Load of no keys")
	}
}

// TestLengths: of numbers, keys and values whose length has a byte more than that of others.
func TestLengths(t *testing.T) {
	sizes := []int{0, 1, 127, 128, 129, 16383, 16384, 16385, 1 << 21}
	for _, k := range sizes {
		for _, v := range sizes {
			m := map[string]string{strings.Repeat("k", k): strings.Repeat("\xff", v), "z": "last"}
			x := btree.New()
			for key, value := range m {
				x.Put([]byte(key), []byte(value))
			}
			b := bytesOf(m)
			if !bytes.Equal(x.Dump(), b) || !bytes.Equal(load(t, b).Dump(), b) {
				t.Errorf("P7.3: a key of %d bytes with a value of %d", k, v)
			}
		}
	}
}

// TestLoadOfEachSize: what was loaded is a tree like any other: all calls do as they should.
func TestLoadOfEachSize(t *testing.T) {
	for n := range 300 {
		m := map[string]string{}
		for _, k := range numbers(n) {
			m[k] = "v" + k
		}
		b := bytesOf(m)
		x := load(t, b)
		if x.Len() != n || !bytes.Equal(x.Dump(), b) || show(t, x) != show(t, treeOf(numbers(n)...)) {
			t.Fatalf("P7.3: Load of %d keys", n)
		}
		for i, k := range numbers(n) {
			if v, ok := x.Get([]byte(k)); !ok || string(v) != "v"+k {
				t.Fatalf("P7.3: %d of %d keys: %q, %v", i, n, v, ok)
			}
			if i%2 == n%2 {
				x.Del([]byte(k))
				delete(m, k)
			} else {
				x.Put([]byte(k+"x"), nil)
				m[k+"x"] = ""
			}
		}
		if !bytes.Equal(x.Dump(), bytesOf(m)) {
			t.Fatalf("P7.3: changes of what was loaded, of %d keys", n)
		}
	}
}

func TestLoadRefuses(t *testing.T) {
	for b, what := range map[string]string{
		"":                             "nothing",
		"\x00\x00":                     "a byte behind no keys",
		"\x01\x01a\x00\x00":            "a byte behind the last key",
		"\x01\x01a\x00\x01b\x00":       "a key too many",
		"\x02\x01a\x00":                "a key too few",
		"\x02\x01b\x00\x01a\x00":       "falling keys",
		"\x02\x01a\x00\x01a\x00":       "a key twice",
		"\x02\x00\x00\x00\x00":         "the empty key twice",
		"\x02\x01a\x00\x00\x00":        "the empty key behind another",
		"\x02\x02aa\x00\x01a\x00":      "a shorter key behind one that begins like it",
		"\x02\x01\xff\x00\x01\x01\x00": "bytes as numbers below 0",
		"\x80\x00":                     "how many, a byte too long",
		"\x81\x00\x00\x00":             "how many, a byte too long",
		"\x01\x81\x00a\x00":            "a key's length, a byte too long",
		"\x01\x80\x00\x00":             "no length, a byte too long",
		"\x01\x01a\x81\x00x":           "a value's length, a byte too long",
		"\x01\x01":                     "no key where one is due",
		"\x01\x01a":                    "no value",
		"\x01\x01a\x02x":               "a value that ends too early",
		"\x01\x03ab":                   "a key that ends too early",
		"\x01\x03\x00\x00":             "a key that ends too early",
		"\x80":                         "how many, cut",
		"\x01\x80":                     "a key's length, cut",
		"\x01\x01a\x80":                "a value's length, cut",
		"\x01\x00\x80":                 "a value's length, cut",
	} {
		wantForm(t, what, []byte(b))
	}
	wantForm(t, "nil", nil)
}

// TestLoadOfGreatNumbers: they are refused at once, whatever they would take.
func TestLoadOfGreatNumbers(t *testing.T) {
	var great []uint64
	for _, n := range []uint64{1 << 16, 1 << 31, 1 << 32, 1 << 40, 1 << 62, 1 << 63} {
		great = append(great, n-1, n, n+1)
	}
	great = append(great, math.MaxUint64-2, math.MaxUint64-1, math.MaxUint64)
	for _, n := range great {
		number := string(binary.AppendUvarint(nil, n))
		for _, end := range []string{"", "\x00", "\x00\x00", "a\x00", strings.Repeat("\x01a", 20)} {
			for what, b := range map[string]string{"keys": number + end, "bytes of a key": "\x01" + number + end, "bytes of a value": "\x01\x01a" + number + end} {
				wantForm(t, fmt.Sprint(n, " ", what), []byte(b))
			}
		}
	}
	for _, b := range []string{"\xff\xff\xff\xff\xff\xff\xff\xff\xff\x02", "\xff\xff\xff\xff\xff\xff\xff\xff\xff\xff\x01", strings.Repeat("\xff", 30)} {
		wantForm(t, "more than a number", []byte(b))
		wantForm(t, "more than a length", []byte("\x01"+b))
	}
	many := append(binary.AppendUvarint(nil, 1<<20), make([]byte, 1<<21)...)
	wantForm(t, "as many keys as there is room for, all empty", many)
}

// manyKeys: a dump of a tree of some height.
func manyKeys(n int) []byte {
	return treeOf(numbers(n)...).Dump()
}

func TestLoadOfEachBeginning(t *testing.T) {
	for _, n := range []int{1, 3, 17, 300} {
		b := manyKeys(n)
		for cut := range b {
			wantForm(t, fmt.Sprint(n, " keys, cut at ", cut), b[:cut])
		}
		wantForm(t, fmt.Sprint(n, " keys, and a byte"), append(slices.Clone(b), 0))
		wantForm(t, fmt.Sprint(n, " keys, twice"), append(slices.Clone(b), b...))
	}
}

// decode tells what b has as the chapter tells it, and whether it is a dump: numbers are read however they are spelt, and then the whole is held against what is written of it.
func decode(b []byte) (map[string]string, bool) {
	left, bad := b, false
	number := func() uint64 {
		n, size := binary.Uvarint(left)
		if size <= 0 {
			bad = true
			return 0
		}
		left = left[size:]
		return n
	}
	text := func() string {
		n := number()
		if n > uint64(len(left)) {
			bad = true
			return ""
		}
		s := string(left[:n])
		left = left[n:]
		return s
	}
	m := map[string]string{}
	for n := number(); n > 0 && !bad; n-- {
		k := text()
		if _, twice := m[k]; twice {
			return nil, false
		}
		m[k] = text()
	}
	return m, !bad && bytes.Equal(bytesOf(m), b)
}

// checkLoad holds what Load makes of b against the model.
func checkLoad(t *testing.T, b []byte) bool {
	t.Helper()
	m, ok := decode(b)
	if !ok {
		wantForm(t, fmt.Sprintf("%x", b), b)
		return false
	}
	x, err := btree.Load(b)
	if err != nil || x.Len() != len(m) || !bytes.Equal(x.Dump(), b) {
		t.Errorf("P7.3: %x: %v", b, err)
	}
	return true
}

// TestLoadOfAllShortBytes: of a few bytes of which all kinds of faults can be made.
func TestLoadOfAllShortBytes(t *testing.T) {
	const alphabet = "\x00\x01\x02\x03\x80\x81"
	taken := 0
	var b []byte
	var all func(left int)
	all = func(left int) {
		if checkLoad(t, b) {
			taken++
		}
		if left == 0 || t.Failed() {
			return
		}
		for _, c := range []byte(alphabet) {
			b = append(b, c)
			all(left - 1)
			b = b[:len(b)-1]
		}
	}
	all(7)
	if taken < 100 {
		t.Errorf("only %d dumps among all short bytes", taken)
	}
}

// TestLoadOfChangedDumps: a byte that is another, gone or new.
func TestLoadOfChangedDumps(t *testing.T) {
	r := rand.New(rand.NewSource(1))
	taken := 0
	for range 60 {
		m := map[string]string{}
		for range r.Intn(40) {
			m[string("\x00ab\xff"[r.Intn(4)])+fmt.Sprint(r.Intn(300))] = strings.Repeat("v", r.Intn(140)*r.Intn(2))
		}
		b := bytesOf(m)
		for range 300 {
			c := slices.Clone(b)
			switch i := r.Intn(len(c)); r.Intn(4) {
			case 0:
				c[i] = byte(r.Intn(256))
			case 1:
				c[i] ^= 1 << r.Intn(8)
			case 2:
				c = slices.Delete(c, i, i+1)
			default:
				c = slices.Insert(c, i, byte(r.Intn(256)))
			}
			if checkLoad(t, c) {
				taken++
			}
		}
	}
	if taken < 100 {
		t.Errorf("only %d dumps among the changed ones", taken)
	}
}

// TestPlaces: an error tells the byte of the fault, however deep in the tree it is.
func TestPlaces(t *testing.T) {
	deep := manyKeys(1000)
	for b, at := range map[string]int{
		"": 0, "\x05": 0, "\x00\x07": 1, "\x80": 1, "\x80\x00": 1, "\x01\x80": 2, "\x01\x05a": 1, "\x01\x01a\x02x": 3, "\x01\x01a\x80\x00": 4,
		"\x02\x01b\x00\x01a\x00": 4, "\x02\x01a\x00\x01a\x00": 4, "\x01\x00\x00z": 3, string(deep) + "x": len(deep), string(deep[:len(deep)-1]): len(deep) - 8,
	} {
		_, err := btree.Load([]byte(b))
		var p *api.Placed
		if !errors.As(err, &p) || p.At != at || err.Error() == "" {
			t.Errorf("%.20x: %v, want the byte %d", b, err, at)
		}
	}
}

// TestOneDump: all orders of few keys, by ways with and without others in between.
func TestOneDump(t *testing.T) {
	keys := []string{"", "a", "ab", "b", "\xff", "\x00"}
	right := treeOf(keys...).Dump()
	var orders func(l []string, k int)
	orders = func(l []string, k int) {
		if k == len(l) {
			x := treeOf(l[:3]...)
			x.Put([]byte(l[0]), []byte("other"))
			x.Put([]byte("gone"), nil)
			x = load(t, x.Clone().Dump())
			for _, key := range append(l[3:], l[0]) {
				x.Put([]byte(key), []byte("v"+key))
			}
			x.Del([]byte("gone"))
			if !bytes.Equal(x.Dump(), right) {
				t.Fatalf("P7.4: %q: %x, want %x", l, x.Dump(), right)
			}
			return
		}
		for i := k; i < len(l); i++ {
			next := slices.Clone(l)
			next[k], next[i] = next[i], next[k]
			orders(next, k+1)
		}
	}
	orders(keys, 0)
}

// TestOneDumpOfMany: trees with the same keys that grew and shrank in ways of their own.
func TestOneDumpOfMany(t *testing.T) {
	keys := numbers(3000)
	right := treeOf(keys...).Dump()
	down := slices.Clone(keys)
	slices.Reverse(down)
	mixed := slices.Clone(keys)
	rand.New(rand.NewSource(1)).Shuffle(len(mixed), func(i, j int) { mixed[i], mixed[j] = mixed[j], mixed[i] })
	for what, l := range map[string][]string{"falling": down, "mixed": mixed} {
		if !bytes.Equal(treeOf(l...).Dump(), right) {
			t.Errorf("P7.4: %s", what)
		}
		x := treeOf(append(numbers(9000), l...)...)
		for _, k := range numbers(9000)[3000:] {
			x.Del([]byte(k))
		}
		if !bytes.Equal(x.Dump(), right) {
			t.Errorf("P7.4: %s, with others that are gone", what)
		}
	}
	other := treeOf(keys...)
	other.Put([]byte(keys[1500]), []byte("x"))
	if bytes.Equal(other.Dump(), right) {
		t.Error("P7.3: another value isn't told")
	}
}

func FuzzLoad(f *testing.F) {
	for _, b := range []string{"", "\x00", "\x01\x01a\x00", "\x02\x01a\x01x\x01b\x00", "\x02\x00\x00\x80\x01", string(manyKeys(20))} {
		f.Add([]byte(b))
	}
	f.Fuzz(func(t *testing.T, b []byte) { checkLoad(t, b) })
}
