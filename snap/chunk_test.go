package snap_test

import (
	"bytes"
	"fmt"
	"math"
	"math/rand"
	"testing"

	"consistory/api"
	"consistory/snap"
)

func TestChunk(t *testing.T) {
	for _, c := range []struct {
		size, off, want int
		last            bool
	}{
		{250, 200, 50, true}, {250, 0, 200, false}, {250, 49, 200, false}, {250, 50, 200, true}, {250, 51, 199, true}, {250, 249, 1, true}, {250, 250, 0, true},
		{0, 0, 0, true}, {1, 0, 1, true}, {1, 1, 0, true}, {199, 0, 199, true}, {200, 0, 200, true}, {201, 0, 200, false}, {201, 1, 200, true},
		{400, 0, 200, false}, {400, 199, 200, false}, {400, 200, 200, true}, {400, 400, 0, true}, {most, most - 200, 200, true}, {most, most - 201, 200, false},
		{api.MaxFrame + 500, api.MaxFrame + 400, 100, true},
	} {
		s := api.Snapshot{Index: 1, Term: 1, Data: pattern(c.size)}
		b, last, err := snap.Chunk(s, c.off)
		if err != nil || last != c.last || !bytes.Equal(b, s.Data[c.off:c.off+c.want]) {
			t.Errorf("P4.3: %d bytes at %d: %d bytes, %v, %v", c.size, c.off, len(b), last, err)
		}
	}
}

func TestChunkOfNoPlace(t *testing.T) {
	for _, size := range []int{0, 1, 200, 250, 400} {
		for _, off := range []int{-1, -200, math.MinInt, size + 1, size + 200, math.MaxInt, math.MaxInt - 199} {
			b, last, err := snap.Chunk(api.Snapshot{Data: pattern(size)}, off)
			want(t, fmt.Sprintf("P4.3: %d bytes at %d", size, off), err, api.ErrPlace)
			if len(b) != 0 || last {
				t.Errorf("rule 4: %d bytes, %v beside %v", len(b), last, err)
			}
		}
	}
	if _, last, err := snap.Chunk(api.Snapshot{}, 0); err != nil || !last {
		t.Errorf("P4.3: no Data: %v, %v", last, err)
	}
}

func TestChunkMemory(t *testing.T) {
	s := api.Snapshot{Data: pattern(300)[:250]}
	first, _, _ := snap.Chunk(s, 100)
	second, _, _ := snap.Chunk(s, 100)
	right := bytes.Clone(first)
	scribble(first)
	if !bytes.Equal(second, right) || !bytes.Equal(s.Data[:300], pattern(300)) {
		t.Error("rule 3: a chunk shares its memory")
	}
	scribble(s.Data)
	if !bytes.Equal(second, right) {
		t.Error("rule 3: a chunk is the snapshot's memory")
	}
}

// state tells all that a builder tells; an Add of nothing at no place tells its bytes.
func state(b *snap.Builder) string {
	n, whole := b.Add(-1, nil, true)
	s, ok := b.Snapshot()
	if ok != whole || ok && len(s.Data) != n {
		return fmt.Sprintf("%d bytes, whole %v, but %s", n, whole, write(s, ok))
	}
	return fmt.Sprintf("%d of %d: %s", n, b.Index(), write(s, ok))
}

func wantState(t *testing.T, what string, b *snap.Builder, right string) {
	t.Helper()
	if got := state(b); got != right {
		t.Errorf("%s: %s, want %s", what, shorten(got), shorten(right))
	}
}

// wantAdd holds what an Add tells against what it must.
func wantAdd(t *testing.T, what string, b *snap.Builder, off int, data string, last bool, n int, whole bool) {
	t.Helper()
	if got, is := b.Add(off, []byte(data), last); got != n || is != whole {
		t.Errorf("P4.4: %s: %d, %v, want %d, %v", what, got, is, n, whole)
	}
}

func TestBegin(t *testing.T) {
	for _, index := range []uint64{0, 7, math.MaxUint64} {
		wantState(t, "P4.4: Begin", snap.Begin(index, 3), fmt.Sprintf("0 of %d: none", index))
	}
	b := snap.Begin(math.MaxUint64, math.MaxUint64-1)
	wantAdd(t, "a snapshot without bytes", b, 0, "", true, 0, true)
	wantState(t, "P4.4", b, `0 of 18446744073709551615: 18446744073709551615/18446744073709551614 ""`)
	wantState(t, "P4.4: another builder", snap.Begin(1, 1), "0 of 1: none")
}

func TestAdd(t *testing.T) {
	b := snap.Begin(7, 3)
	wantAdd(t, "beyond", b, 1, "x", false, 0, false)
	wantAdd(t, "beyond, the last", b, 1, "", true, 0, false)
	wantAdd(t, "below 0", b, -1, "x", true, 0, false)
	wantAdd(t, "far below 0", b, math.MinInt, "x", true, 0, false)
	wantAdd(t, "the first", b, 0, "abc", false, 3, false)
	wantAdd(t, "the first again", b, 0, "abc", false, 3, false)
	wantAdd(t, "the first as the last", b, 0, "abc", true, 3, false)
	wantAdd(t, "within", b, 2, "cd", true, 3, false)
	wantAdd(t, "beyond", b, 4, "e", true, 3, false)
	wantAdd(t, "far beyond", b, math.MaxInt, "e", true, 3, false)
	wantAdd(t, "nothing", b, 3, "", false, 3, false)
	wantAdd(t, "the next", b, 3, "de", false, 5, false)
	wantState(t, "P4.4: not whole", b, "5 of 7: none")
	wantAdd(t, "the last", b, 5, "f", true, 6, true)
	wantState(t, "P4.4: whole", b, `6 of 7: 7/3 "abcdef"`)
	wantAdd(t, "behind a whole one", b, 6, "g", true, 6, true)
	wantAdd(t, "behind a whole one, not the last", b, 6, "g", false, 6, true)
	wantAdd(t, "nothing behind a whole one", b, 6, "", false, 6, true)
	wantAdd(t, "the first of a whole one", b, 0, "abc", false, 6, true)
	wantState(t, "P4.4: whole for good", b, `6 of 7: 7/3 "abcdef"`)
}

// TestAddNothingAsTheLast: all bytes were there, and only now it is known.
func TestAddNothingAsTheLast(t *testing.T) {
	b := snap.Begin(1, 2)
	wantAdd(t, "all", b, 0, "all", false, 3, false)
	wantAdd(t, "no more", b, 3, "", true, 3, true)
	wantState(t, "P4.4", b, `3 of 1: 1/2 "all"`)
}

func TestAddTooMuch(t *testing.T) {
	all := string(pattern(api.MaxFrame))
	b := snap.Begin(1, 1)
	for _, n := range []int{most + 1, api.MaxFrame} {
		wantAdd(t, "too much at once", b, 0, all[:n], true, 0, false)
	}
	wantAdd(t, "a part", b, 0, all[:100], false, 100, false)
	wantAdd(t, "too much in all", b, 100, all[100:most+1], true, 100, false)
	wantAdd(t, "one less than all", b, 100, all[100:most-1], false, most-1, false)
	wantAdd(t, "one too many", b, most-1, all[most-1:most+1], true, most-1, false)
	wantState(t, "P4.4: as it was", b, fmt.Sprint(most-1, " of 1: none"))
	wantAdd(t, "just as many", b, most-1, all[most-1:most], false, most, false)
	wantAdd(t, "one too many", b, most, "x", true, most, false)
	wantAdd(t, "nothing, but the last", b, most, "", true, most, true)
	wantState(t, "P4.4", b, fmt.Sprint(most, " of 1: ", write(of(1, 1, all[:most]), true)))
	b = snap.Begin(1, 1)
	wantAdd(t, "just as many at once", b, 0, all[:most], true, most, true)
}

func TestBuilderMemory(t *testing.T) {
	b := snap.Begin(1, 1)
	room := []byte("abc...")
	b.Add(0, room[:3], false)
	if string(room) != "abc..." {
		t.Errorf("rule 3: %q", room)
	}
	copy(room, "ZZZZZZ")
	b.Add(3, []byte("def"), true)
	first, _ := b.Snapshot()
	second, _ := b.Snapshot()
	scribble(first.Data)
	third, ok := b.Snapshot()
	if write(second, true) != `1/1 "abcdef"` || write(third, ok) != `1/1 "abcdef"` {
		t.Errorf("rule 3: %s, %s", write(second, true), write(third, ok))
	}
}

// TestAnyOrder: chunks come in any order, some twice, some never, until all are there.
func TestAnyOrder(t *testing.T) {
	for seed := range int64(300) {
		r := rand.New(rand.NewSource(seed))
		s := api.Snapshot{Index: uint64(seed), Term: 2, Data: pattern(r.Intn(1500))}
		b := snap.Begin(s.Index, s.Term)
		for has := 0; ; {
			off := r.Intn(len(s.Data)/200+1) * 200
			if r.Intn(3) == 0 {
				off = r.Intn(len(s.Data) + 1)
			}
			data, last, err := snap.Chunk(s, off)
			done(t, err)
			right := has
			if off == has {
				right += len(data)
			}
			n, whole := b.Add(off, data, last)
			got, ok := b.Snapshot()
			if n != right || whole != (off == has && last) || ok != whole {
				t.Fatalf("P4.5: run %d: %d bytes at %d behind %d: %d, %v, %v", seed, len(data), off, has, n, whole, ok)
			}
			if has = n; whole {
				if write(got, ok) != write(s, true) {
					t.Fatalf("P4.5: run %d: %s", seed, shorten(write(got, ok)))
				}
				break
			}
		}
	}
}

// TestOneLost: without one of its chunks it isn't whole, however often the others come.
func TestOneLost(t *testing.T) {
	s := api.Snapshot{Index: 1, Term: 1, Data: pattern(1050)}
	for lost := 0; lost < 1050; lost += 200 {
		b := snap.Begin(1, 1)
		for i := range 50 {
			off := i * 7 % 6 * 200
			if data, last, err := snap.Chunk(s, off); err != nil || off != lost {
				b.Add(off, data, last)
			}
		}
		wantState(t, fmt.Sprint("P4.5: without that at ", lost), b, fmt.Sprint(lost, " of 1: none"))
	}
}
