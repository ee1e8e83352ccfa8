package wire_test

import (
	"bytes"
	"hash/crc32"
	"math/rand"
	"strings"
	"testing"

	"consistory/api"
	"consistory/wire"
)

func TestSum(t *testing.T) {
	for s, want := range map[string]uint32{"": 0, "123456789": 0xCBF43926, "\x00": 0xD202EF8D, "\xff\xff\xff\xff": 0xFFFFFFFF} {
		if got := wire.Sum([]byte(s)); got != want {
			t.Errorf("P1.5: Sum(%x): %08X, want %08X", s, got, want)
		}
	}
	r := rand.New(rand.NewSource(2))
	for range 500 {
		b := make([]byte, r.Intn(300))
		r.Read(b)
		if got := wire.Sum(b); got != crc32.ChecksumIEEE(b) {
			t.Errorf("P1.5: Sum(%x): %08X", b, got)
		}
	}
}

func TestFrame(t *testing.T) {
	if f, err := wire.Frame([]byte("ab")); err != nil || string(f[:6]) != "\x02\x00\x00\x00ab" || string(f[6:]) != sumBytes(f[:6]) {
		t.Errorf("P1.5: %x, %v", f, err)
	}
	if f, err := wire.Frame(nil); err != nil || string(f) != "\x00\x00\x00\x00"+sumBytes(make([]byte, 4)) {
		t.Errorf("P1.5: %x, %v", f, err)
	}
	for _, n := range []int{0, 1, 255, 256, 65536, 262143, 262144} {
		b := bytes.Repeat([]byte{0xC3}, n)
		f, err := wire.Frame(b)
		if err != nil || len(f) != n+8 {
			t.Fatalf("P1.5: a frame of %d: %d, %v", n, len(f), err)
		}
		for _, behind := range []string{"", "\x00", "\xff\xff\xff\xff\xff"} {
			got, size, err := wire.Unframe(append(f[:len(f):len(f)], behind...))
			if !bytes.Equal(got, b) || size != len(f) || err != nil {
				t.Errorf("P1.5: a frame of %d comes back as %d bytes, %d, %v", n, len(got), size, err)
			}
		}
		for _, k := range []int{0, 1, 3, 4, n / 2, n + 3, n + 4, n + 7} {
			got, size, err := wire.Unframe(f[:k])
			if len(got) != 0 || size != 0 || classOf(t, err) != api.ErrShort {
				t.Errorf("P1.5: a frame of %d cut at %d: %v", n, k, err)
			}
			wantPlace(t, err, k)
		}
	}
	for _, n := range []int{262145, 1 << 20} {
		if f, err := wire.Frame(make([]byte, n)); len(f) != 0 || classOf(t, err) != api.ErrForm {
			t.Errorf("P1.5: a frame of %d: %d, %v", n, len(f), err)
		}
	}
}

// sumBytes: the sum of b as a frame has it.
func sumBytes(b []byte) string {
	s := crc32.ChecksumIEEE(b)
	return string([]byte{byte(s), byte(s >> 8), byte(s >> 16), byte(s >> 24)})
}

func TestUnframeRefuses(t *testing.T) {
	for _, c := range []struct {
		b    string
		want api.Class
	}{
		{"", api.ErrShort},
		{"\xff\xff\xff", api.ErrShort},
		{"\x00\x00\x04\x00", api.ErrShort},
		{"\x01\x00\x04\x00", api.ErrForm},
		{"\x00\x00\x00\x01", api.ErrForm},
		{"\xff\xff\xff\xff", api.ErrForm},
		{"\xff\xff\xff\x7f" + strings.Repeat("x", 100), api.ErrForm},
		{"\x00\x00\x00\x00\x00\x00\x00", api.ErrShort},
		{"\x00\x00\x00\x00\x00\x00\x00\x00", api.ErrSum},
		{"\x01\x00\x00\x00a" + sumBytes([]byte("a")), api.ErrSum}, // the sum is of the length, too
		{"\x01\x00\x00\x00a\x00\x00\x00", api.ErrShort},
	} {
		got, size, err := wire.Unframe([]byte(c.b))
		if len(got) != 0 || size != 0 || classOf(t, err) != c.want {
			t.Errorf("P1.5: Unframe(%x): %x, %d, %v", c.b, got, size, err)
		}
	}
}

// TestChangesAreTold changes up to 32 bits in a row, wherever they lie in payload and sum.
func TestChangesAreTold(t *testing.T) {
	r := rand.New(rand.NewSource(3))
	for _, b := range []string{"", "a", "abcd", strings.Repeat("\x00", 40), strings.Repeat("\xff", 40), "SELECT a FROM t WHERE b = 'c'"} {
		f, err := wire.Frame([]byte(b))
		if err != nil {
			t.Fatal(err)
		}
		for from := 32; from < 8*len(f); from++ {
			for span := 1; span <= 32 && from+span <= 8*len(f); span++ {
				ends := uint64(1) | 1<<(span-1)
				for _, inner := range []uint64{0, 1<<span - 1, r.Uint64() & (1<<span - 1), r.Uint64() & (1<<span - 1)} {
					got, size, err := wire.Unframe(flipped(f, from, ends|inner))
					if len(got) != 0 || size != 0 || classOf(t, err) != api.ErrSum {
						t.Fatalf("P1.6: %x, bits %x changed from bit %d: %v", f, ends|inner, from, err)
					}
				}
			}
		}
	}
}

// flipped turns over the bits of f that bits tells, from bit from on, the lowest of a byte first.
func flipped(f []byte, from int, bits uint64) []byte {
	f = append([]byte(nil), f...)
	for i := from; bits != 0; i, bits = i+1, bits>>1 {
		f[i/8] ^= byte(bits&1) << (i % 8)
	}
	return f
}
