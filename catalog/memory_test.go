package catalog_test

import (
	"reflect"
	"slices"
	"testing"
	"unsafe"

	"consistory/api"
	"consistory/catalog"
)

// roomy tells x with lists that have room behind them, and something in it.
func roomy[T any](x T) T {
	x = deepCopy(x)
	for _, s := range slices.Backward(spots(&x)) { // a list is made anew behind what is in it
		if s.v.Kind() == reflect.Slice && s.v.Len() > 0 {
			n := s.v.Len()
			l := reflect.MakeSlice(s.v.Type(), n+2, n+2)
			reflect.Copy(l, s.v)
			l.Index(n).Set(s.v.Index(0))
			l.Index(n + 1).Set(s.v.Index(n - 1))
			s.v.Set(l.Slice(0, n))
		}
	}
	return deepCopy(x)
}

// whole tells x with the room behind its lists as elements.
func whole[T any](x T) T {
	x = deepCopy(x)
	for _, s := range spots(&x) {
		if s.v.Kind() == reflect.Slice {
			s.v.SetLen(s.v.Cap())
		}
	}
	return x
}

// definitions: one of each kind that the rich schema takes, and some that it refuses.
var definitions = []string{
	"CREATE TABLE w (a INT PRIMARY KEY, b TEXT UNIQUE, UNIQUE (a, b))",
	"CREATE INDEX l ON u (y, x)",
	"DROP TABLE t",
	"DROP TABLE u",
	"DROP INDEX i",
	"DROP INDEX k",
	"CREATE TABLE w (a INT PRIMARY KEY, a INT)",
	"CREATE TABLE w (a INT PRIMARY KEY, UNIQUE (c))",
	"CREATE INDEX l ON t (a)",
	"CREATE INDEX l ON u (z)",
	"DROP TABLE w",
	"DROP INDEX w",
	"SELECT a FROM t",
}

func TestArgumentsStayAsTheyAre(t *testing.T) {
	for _, sql := range definitions {
		s, x := roomy(rich(t)), roomy(statement(t, sql))
		schema, stmt := whole(s), whole(x)
		catalog.Is(s)
		catalog.Apply(s, x)
		catalog.Find(s, "t")
		catalog.FindKey(s, "i")
		catalog.Same(s, s)
		if !reflect.DeepEqual(whole(s), schema) || !reflect.DeepEqual(whole(x), stmt) {
			t.Errorf("rule 3: %s: an argument has changed", sql)
		}
	}
}

// lists tells where each list of what x points to begins and ends, its room with it.
func lists(x any) [][2]uintptr {
	var out [][2]uintptr
	for _, s := range spots(x) {
		if s.v.Kind() == reflect.Slice && s.v.Cap() > 0 {
			at := s.v.Pointer()
			out = append(out, [2]uintptr{at, at + uintptr(s.v.Cap())*s.v.Type().Elem().Size()})
		}
	}
	return out
}

// texts tells where each text of what x points to lies.
func texts(x any) map[*byte]string {
	out := map[*byte]string{}
	for _, s := range spots(x) {
		if s.v.Kind() == reflect.String && s.v.Len() > 0 {
			out[unsafe.StringData(s.v.String())] = s.path
		}
	}
	return out
}

func overlap(a, b [2]uintptr) bool { return a[0] < b[1] && b[0] < a[1] }

func TestAnswersAreNewMemory(t *testing.T) {
	for _, sql := range definitions {
		s, x := roomy(rich(t)), roomy(statement(t, sql))
		s.Tables[0].Keys[3].Cols = s.Tables[0].Keys[2].Cols // one list at two places is two in the answer
		a, _ := catalog.Apply(s, x)
		b, _ := catalog.Apply(s, x)
		own := lists(&a)
		for i, l := range own {
			for k, other := range own {
				if i != k && overlap(l, other) {
					t.Errorf("rule 3: %s: lists %d and %d share memory", sql, i, k)
				}
			}
			for _, other := range append(append(lists(&s), lists(&x)...), lists(&b)...) {
				if overlap(l, other) {
					t.Errorf("rule 3: %s: list %d is an argument's or another answer's", sql, i)
				}
			}
		}
		theirs, told := texts(&s), texts(&x)
		for at, path := range texts(&a) {
			if theirs[at]+told[at] != "" {
				t.Errorf("rule 3: %s: %s is an argument's", sql, path)
			}
		}
	}
}

func TestAnswersStay(t *testing.T) {
	for _, sql := range definitions {
		s, x := rich(t), statement(t, sql)
		a, _ := catalog.Apply(s, x)
		b, _ := catalog.Apply(s, x)
		was := show(b)
		for _, place := range spots(&a) {
			if place.v.Kind() == reflect.Slice {
				place.v.SetLen(place.v.Cap())
				place.v.Clear()
			}
		}
		c, _ := catalog.Apply(s, x)
		if show(s) != richShown || show(b) != was || show(c) != was {
			t.Errorf("rules 3, 6: %s: what is done with an answer is seen elsewhere", sql)
		}
	}
}

// TestRoomBehindCountsForNothing: what is told is the same, whatever stands behind a list's end.
func TestRoomBehindCountsForNothing(t *testing.T) {
	for _, sql := range definitions {
		a, first := apply(t, rich(t), statement(t, sql))
		b, second := apply(t, roomy(rich(t)), roomy(statement(t, sql)))
		if !catalog.Is(roomy(rich(t))) || first != second || !catalog.Same(a, b) || show(a) != show(b) {
			t.Errorf("rule 6: %s: class %d, %s; class %d, %s", sql, first, show(a), second, show(b))
		}
	}
	var s api.Schema
	s.Tables = make([]api.Table, 0, 9)
	if !catalog.Is(s) || catalog.Find(s, "") != -1 || !catalog.Same(s, api.Schema{}) {
		t.Error("rule 2: an empty list with room")
	}
}
