package net_test

import (
	"errors"
	"fmt"
	"math"
	"testing"

	"consistory/api"
	"consistory/net"
)

func TestNew(t *testing.T) {
	a, b := net.New(), net.New()
	if a.Len() != 0 || a.Find(1, 2) != -1 || a.Find(0, 0) != -1 {
		t.Errorf("P5.1: New: %d in flight, found at %d, %d", a.Len(), a.Find(1, 2), a.Find(0, 0))
	}
	done(t, a.Send(vote(1, 2, 3)))
	wantShow(t, "rule 6: another net", b, "")
	wantShow(t, "P5.1", a, "3")
}

func TestExample(t *testing.T) {
	n := net.New()
	a, b := vote(0, 1, 1), vote(1, 0, 2)
	done(t, n.Send(a), n.Send(b), n.Copy(0))
	m, err := n.Take(0)
	if err != nil || !same(m, a) {
		t.Errorf("the example takes %v, %v", m, err)
	}
	wantShow(t, "the example", n, "2 1")
}

// TestPlaces: each call at each place, and what is in flight behind it.
func TestPlaces(t *testing.T) {
	for i, c := range []struct{ gone, copied string }{
		{"12 13 14", "11 12 13 14 11"}, {"11 13 14", "11 12 13 14 12"}, {"11 12 14", "11 12 13 14 13"}, {"11 12 13", "11 12 13 14 14"},
	} {
		at := fmt.Sprint(" at ", i)
		n := netOf(t, 11, 12, 13, 14)
		m, err := n.Peek(i)
		if err != nil || !same(m, vote(1, 2, uint64(11+i))) {
			t.Errorf("P5.1: Peek%s: %v, %v", at, m, err)
		}
		wantShow(t, "P5.1: Peek"+at, n, "11 12 13 14")
		m, err = n.Take(i)
		if err != nil || !same(m, vote(1, 2, uint64(11+i))) || n.Len() != 3 {
			t.Errorf("P5.1: Take%s: %v, %v", at, m, err)
		}
		wantShow(t, "P5.1: Take"+at, n, c.gone)
		n = netOf(t, 11, 12, 13, 14)
		done(t, n.Drop(i))
		wantShow(t, "P5.1: Drop"+at, n, c.gone)
		n = netOf(t, 11, 12, 13, 14)
		done(t, n.Copy(i))
		wantShow(t, "P5.1: Copy"+at, n, c.copied)
	}
}

// TestNoPlace: places ahead of the first and behind the last one.
func TestNoPlace(t *testing.T) {
	for size, right := range []string{"", "11", "11 12", "11 12 13"} {
		n := netOf(t, []uint64{11, 12, 13}[:size]...)
		for _, i := range []int{-1, -2, -size, math.MinInt, size, size + 1, most, math.MaxInt} {
			checkNoPlace(t, n, i)
		}
		wantShow(t, "rule 4: behind places that aren't there", n, right)
	}
}

func checkNoPlace(t *testing.T, n *net.Net, i int) {
	t.Helper()
	peeked, first := n.Peek(i)
	taken, second := n.Take(i)
	if !same(peeked, api.Msg{}) || !same(taken, api.Msg{}) {
		t.Errorf("rule 4: at %d of %d: %v, %v", i, n.Len(), peeked, taken)
	}
	for k, err := range []error{first, second, n.Drop(i), n.Copy(i)} {
		what := fmt.Sprintf("P5.1: %s at %d of %d", []string{"Peek", "Take", "Drop", "Copy"}[k], i, n.Len())
		want(t, what, err, api.ErrPlace)
		var p *api.Placed
		if !errors.As(err, &p) || p.At != i {
			t.Errorf("%s: the error tells no place: %v", what, err)
		}
	}
}

// TestNoPlaceAnyMore: what was the last place is none once its message is gone.
func TestNoPlaceAnyMore(t *testing.T) {
	n := netOf(t, 11, 12)
	done(t, n.Drop(0))
	checkNoPlace(t, n, 1)
	_, err := n.Take(0)
	done(t, err)
	checkNoPlace(t, n, 0)
	done(t, n.Send(vote(1, 2, 13)))
	wantShow(t, "P5.1: behind the last one", n, "13")
}

func TestFull(t *testing.T) {
	n := netOf(t, 7)
	fill(t, n, 1)
	want(t, "P5.1: the last that has room", n.Send(vote(3, 4, 8)), 0)
	right := show(t, n)
	want(t, "P5.1: Send into a full net", n.Send(vote(3, 4, 9)), api.ErrFull)
	want(t, "P5.1: Copy in a full net", n.Copy(0), api.ErrFull)
	want(t, "P5.1: the last one's Copy in a full net", n.Copy(most-1), api.ErrFull)
	want(t, "P5.1: no message, ahead of no room", n.Send(api.Msg{}), api.ErrForm)
	want(t, "P5.1: no place, ahead of no room", n.Copy(most), api.ErrPlace)
	want(t, "P5.1: no place, ahead of no room", n.Copy(-1), api.ErrPlace)
	if n.Len() != most || n.Find(3, 4) != most-1 {
		t.Errorf("P5.1: %d in flight, the last at %d", n.Len(), n.Find(3, 4))
	}
	wantShow(t, "rule 4: refused", n, right)
}

// TestRoomAgain: each that goes leaves room for one, be it sent or copied.
func TestRoomAgain(t *testing.T) {
	for k, leave := range []func(n *net.Net) error{
		func(n *net.Net) error { return n.Drop(0) },
		func(n *net.Net) error { return n.Drop(most - 1) },
		func(n *net.Net) error { _, err := n.Take(most / 2); return err },
	} {
		n := net.New()
		fill(t, n, 0)
		done(t, leave(n), n.Send(vote(1, 2, 5)))
		want(t, fmt.Sprint("P5.1: Send, way ", k), n.Send(vote(1, 2, 6)), api.ErrFull)
		done(t, leave(n), n.Copy(0))
		want(t, fmt.Sprint("P5.1: Copy, way ", k), n.Copy(0), api.ErrFull)
		if n.Len() != most {
			t.Errorf("P5.1: %d in flight", n.Len())
		}
	}
}

// TestFullOfCopies: copies take as much room as what is sent.
func TestFullOfCopies(t *testing.T) {
	n := netOf(t, 7)
	for range most - 1 {
		done(t, n.Copy(n.Len()-1))
	}
	want(t, "P5.1: one copy more", n.Copy(0), api.ErrFull)
	want(t, "P5.1: one message more", n.Send(vote(1, 2, 8)), api.ErrFull)
	for range most {
		if m, err := n.Take(0); err != nil || !same(m, vote(1, 2, 7)) {
			t.Fatalf("P5.2: a copy is %v, %v", m, err)
		}
	}
	if n.Len() != 0 {
		t.Errorf("P5.1: %d in flight", n.Len())
	}
}

func TestFind(t *testing.T) {
	n := net.New()
	for i, m := range [][2]int{{1, 2}, {2, 1}, {0, 0}, {1, 1}, {1, 2}, {-1, 1000}, {1000, -1}, {2, 1}, {-1, -1}} {
		done(t, n.Send(vote(m[0], m[1], uint64(i))))
	}
	for _, c := range []struct{ from, to, want int }{
		{1, 2, 0}, {2, 1, 1}, {0, 0, 2}, {1, 1, 3}, {-1, 1000, 5}, {1000, -1, 6}, {-1, -1, 8},
		{2, 2, -1}, {0, 1, -1}, {1, 0, -1}, {1000, 1000, -1}, {1, 3, -1}, {3, 2, -1}, {-2, 1, -1}, {1001, 2, -1},
		{math.MinInt, math.MaxInt, -1}, {math.MaxInt, math.MinInt, -1}, {1 + 1<<32, 2, -1},
	} {
		if got := n.Find(c.from, c.to); got != c.want {
			t.Errorf("P5.1: Find(%d, %d): %d, want %d", c.from, c.to, got, c.want)
		}
	}
	done(t, n.Drop(0))
	if a, b := n.Find(1, 2), n.Find(2, 1); a != 3 || b != 0 {
		t.Errorf("P5.1: Find behind a Drop: %d, %d", a, b)
	}
	done(t, n.Copy(3), n.Drop(3))
	if at := n.Find(1, 2); at != 7 {
		t.Errorf("P5.1: Find of a copy: %d", at)
	}
	done(t, n.Drop(7))
	if at := n.Find(1, 2); at != -1 {
		t.Errorf("P5.1: Find of what is gone: %d", at)
	}
}

// TestFindTheLast: the last place of a full net is looked at, too.
func TestFindTheLast(t *testing.T) {
	n := net.New()
	fill(t, n, 1)
	done(t, n.Send(vote(5, 6, 1)))
	if n.Find(5, 6) != most-1 || n.Find(6, 5) != -1 {
		t.Errorf("P5.1: Find in a full net: %d, %d", n.Find(5, 6), n.Find(6, 5))
	}
}
