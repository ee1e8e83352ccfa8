package net_test

import (
	"fmt"
	"math/rand"
	"slices"
	"testing"

	"consistory/api"
	"consistory/net"
)

// model: a net as the chapter tells it: the messages themselves, which nobody changes.
type model []api.Msg

func (l model) has(i int) bool { return i >= 0 && i < len(l) }

func (l model) find(from, to int) int {
	return slices.IndexFunc(l, func(m api.Msg) bool { return m.From == from && m.To == to })
}

// run: a net beside its model, and how often each message may still be taken.
type run struct {
	t    *testing.T
	r    *rand.Rand
	n    *net.Net
	l    model
	sent uint64
	due  map[uint64]int
	told []string
}

// step does one call on both.
func (u *run) step() {
	i := u.r.Intn(len(u.l)+4) - 2
	switch u.r.Intn(10) {
	case 0, 1, 2, 3:
		u.send()
	case 4:
		u.peek(i)
	case 5, 6:
		u.take(i)
	case 7:
		u.drop(i)
	default:
		u.copy(i)
	}
}

func (u *run) send() {
	u.sent++
	m := chanceMsg(u.r, u.sent)
	if u.r.Intn(8) == 0 {
		m.Kind = 0
		u.note("a wrong Send", 0, u.n.Send(m), api.ErrForm)
		return
	}
	u.note("Send", 0, u.n.Send(m), 0)
	u.l = append(u.l, m)
	u.due[m.Term]++
}

func (u *run) peek(i int) {
	m, err := u.n.Peek(i)
	u.note("Peek", i, err, u.placed(i))
	u.compare("Peek", i, m)
}

func (u *run) take(i int) {
	m, err := u.n.Take(i)
	u.note("Take", i, err, u.placed(i))
	u.compare("Take", i, m)
	if u.l.has(i) {
		u.l = slices.Delete(slices.Clone(u.l), i, i+1)
		if u.due[m.Term]--; u.due[m.Term] < 0 {
			u.t.Fatalf("P5.2: %q: %v is taken once too often", u.told, m)
		}
	}
}

func (u *run) drop(i int) {
	u.note("Drop", i, u.n.Drop(i), u.placed(i))
	if u.l.has(i) {
		u.due[u.l[i].Term]--
		u.l = slices.Delete(slices.Clone(u.l), i, i+1)
	}
}

func (u *run) copy(i int) {
	u.note("Copy", i, u.n.Copy(i), u.placed(i))
	if u.l.has(i) {
		u.due[u.l[i].Term]++
		u.l = append(u.l, u.l[i])
	}
}

// placed tells the class that a call at place i answers.
func (u *run) placed(i int) api.Class {
	if u.l.has(i) {
		return 0
	}
	return api.ErrPlace
}

// note holds a call's class against the right one.
func (u *run) note(call string, i int, err error, right api.Class) {
	u.t.Helper()
	u.told = append(u.told, fmt.Sprint(call, " ", i))
	if got := classOf(u.t, err); got != right {
		u.t.Fatalf("P5.1: %q: class %d, want %d", u.told, got, right)
	}
}

// compare holds a message against the one at place i.
func (u *run) compare(call string, i int, m api.Msg) {
	u.t.Helper()
	right := api.Msg{}
	if u.l.has(i) {
		right = u.l[i]
	}
	if !same(m, right) {
		u.t.Fatalf("P5.2: %q: %s %d: %v, want %v", u.told, call, i, m, right)
	}
}

// compareAll holds all that may be seen of both against each other.
func (u *run) compareAll() {
	u.t.Helper()
	if u.n.Len() != len(u.l) {
		u.t.Fatalf("P5.1: %q: %d in flight, want %d", u.told, u.n.Len(), len(u.l))
	}
	for i := range u.l {
		m, err := u.n.Peek(i)
		done(u.t, err)
		u.compare("Peek", i, m)
	}
	for from := -2; from < 4; from++ {
		for to := -2; to < 4; to++ {
			if got, right := u.n.Find(from, to), u.l.find(from, to); got != right {
				u.t.Fatalf("P5.1: %q: Find(%d, %d): %d, want %d", u.told, from, to, got, right)
			}
		}
	}
}

// TestModel: whatever is called, in whatever order; at the end all that is due is taken.
func TestModel(t *testing.T) {
	for seed := range int64(200) {
		u := &run{t: t, r: rand.New(rand.NewSource(seed)), n: net.New(), due: map[uint64]int{}}
		for range 60 {
			u.step()
			u.compareAll()
		}
		for len(u.l) > 0 {
			u.take(u.r.Intn(len(u.l)))
		}
		for id, n := range u.due {
			if n != 0 {
				t.Fatalf("P5.2: run %d: message %d wasn't taken %d times", seed, id, n)
			}
		}
		u.compareAll()
	}
}
