package table_test

import (
	"reflect"
	"slices"
	"strings"
	"testing"
	"unsafe"

	"consistory/api"
	"consistory/table"
)

// roomy tells x with lists that have room behind them, and something in it; its texts are nobody else's. (A list is made anew behind what is in it.)
func roomy[T any](x T) T {
	x = deepCopy(x)
	for _, s := range slices.Backward(spots(&x)) {
		switch {
		case s.v.Kind() == reflect.String:
			s.v.SetString(strings.Clone(s.v.String()))
		case s.v.Kind() == reflect.Slice && s.v.Len() > 0:
			n := s.v.Len()
			l := reflect.MakeSlice(s.v.Type(), n+2, n+2)
			reflect.Copy(l, s.v)
			l.Index(n).Set(s.v.Index(0))
			l.Index(n + 1).Set(s.v.Index(n - 1))
			s.v.Set(l.Slice(0, n))
		}
	}
	return deepCopy(x)
}

// whole tells x with the room behind its lists as elements.
func whole[T any](x T) T {
	x = deepCopy(x)
	for _, s := range spots(&x) {
		if s.v.Kind() == reflect.Slice {
			s.v.SetLen(s.v.Cap())
		}
	}
	return x
}

// wipe takes away all that x points to has in its lists, the room behind them with it.
func wipe(x any) {
	for _, s := range spots(x) {
		if s.v.Kind() == reflect.Slice {
			s.v.SetLen(s.v.Cap())
			s.v.Clear()
		}
	}
}

// lists tells where each list of what x points to begins and ends, its room with it.
func lists(x any) [][2]uintptr {
	var out [][2]uintptr
	for _, s := range spots(x) {
		if s.v.Kind() == reflect.Slice && s.v.Cap() > 0 {
			at := s.v.Pointer()
			out = append(out, [2]uintptr{at, at + uintptr(s.v.Cap())*s.v.Type().Elem().Size()})
		}
	}
	return out
}

// texts tells where each text of what x points to lies.
func texts(x any) map[*byte]string {
	out := map[*byte]string{}
	for _, s := range spots(x) {
		if s.v.Kind() == reflect.String && s.v.Len() > 0 {
			out[unsafe.StringData(s.v.String())] = s.path
		}
	}
	return out
}

func overlap(a, b [2]uintptr) bool { return a[0] < b[1] && b[0] < a[1] }

// answer: all that a store tells.
type answer struct {
	Schema api.Schema
	Data   api.Data
	Rows   [][]api.Row
}

func answerOf(x *table.Store) answer {
	a := answer{Schema: x.Schema(), Data: x.Data()}
	for key := range 2 {
		l, _ := x.Rows(1, api.Way{Key: key})
		a.Rows = append(a.Rows, l)
	}
	l, _ := x.Rows(1, api.Way{Key: -1})
	a.Rows = append(a.Rows, l)
	return a
}

// handed: all that a store can be told.
type handed struct {
	Schema api.Schema
	Data   api.Data
	Index  api.Stmt
	Create api.Stmt
	Ups    []api.Row
	Gone   []uint64
	Made   [][]api.Value
	Way    api.Way
}

func everything(t *testing.T) handed {
	return roomy(handed{
		Schema: rich(t).Schema(), Data: rich(t).Data(),
		Index:  statement(t, "CREATE UNIQUE INDEX l ON u (x, y)"),
		Create: statement(t, "CREATE TABLE w (a INT PRIMARY KEY, b TEXT, UNIQUE (b, a))"),
		Ups:    rows(row(1, num(7), text("seven")), row(2, num(8), text("eight"))),
		Gone:   ids(3, 4),
		Made:   made(vals(num(9), text("nine")), vals(num(10), null)),
		Way:    from(eq(1, num(9)), text("n")),
	})
}

// told tells the store that was told all of h.
func told(t *testing.T, h handed) *table.Store {
	t.Helper()
	x, err := table.Of(h.Schema, h.Data)
	if err != nil {
		t.Fatal(err)
	}
	for _, err := range []error{x.Define(h.Index), x.Define(h.Create), x.Write(1, h.Ups, h.Gone, h.Made)} {
		if err != nil {
			t.Fatal(err)
		}
	}
	if l, err := x.Rows(1, h.Way); err != nil || len(l) != 1 || l[0].Id != 9 {
		t.Fatalf("P12.4: %v, %v", l, err)
	}
	return x
}

func TestArgumentsStayAsTheyAre(t *testing.T) {
	h := everything(t)
	was := whole(h)
	x := told(t, h)
	for _, i := range []int{0, 1, 2, 9} { // refused, mostly
		x.Write(i, h.Ups, h.Gone, h.Made)
		x.Rows(i, h.Way)
		x.Define(h.Index)
	}
	h.Data.Rows[0][0].Vals[0] = null
	table.Of(h.Schema, h.Data)
	h.Data.Rows[0][0].Vals[0] = was.Data.Rows[0][0].Vals[0]
	if !reflect.DeepEqual(whole(h), was) {
		t.Error("rule 3: an argument has changed")
	}
}

func TestArgumentsAreNotKept(t *testing.T) {
	h := everything(t)
	x := told(t, h)
	was := show(x)
	theirs, handedTexts := lists(&h), texts(&h)
	a := answerOf(x)
	for i, l := range lists(&a) {
		for _, other := range theirs {
			if overlap(l, other) {
				t.Errorf("rule 3: list %d is an argument's", i)
			}
		}
	}
	for at, path := range texts(&a) {
		if handedTexts[at] != "" {
			t.Errorf("rule 3: %s is an argument's", path)
		}
	}
	wipe(&h)
	if got := show(x); got != was || tell(t, x, 1, eq(2, num(7))) != "1" {
		t.Errorf("rule 3: %s has become %s", was, got)
	}
}

func TestAnswersAreNewMemory(t *testing.T) {
	x := told(t, everything(t))
	a, b := answerOf(x), answerOf(x.Clone())
	was := show(x)
	own := lists(&a)
	for i, l := range own {
		for k, other := range own {
			if i != k && overlap(l, other) {
				t.Errorf("rule 3: lists %d and %d share memory", i, k)
			}
		}
		for _, other := range lists(&b) {
			if overlap(l, other) {
				t.Errorf("rule 3: list %d is another answer's", i)
			}
		}
	}
	wipe(&a)
	if got := showAll(b.Schema, b.Data); got != was || show(x) != was {
		t.Errorf("rule 3: %s has become %s and %s", was, got, show(x))
	}
	if !reflect.DeepEqual(b, answerOf(x)) {
		t.Error("rule 3: what is done with an answer is seen in a later one")
	}
	wantWrite(t, x, 1, rows(row(1, num(70), null)), ids(2), nil)
	if got := showAll(b.Schema, b.Data); got != was {
		t.Errorf("rule 3: an answer has become %s", got)
	}
}

// TestRoomBehindCountsForNothing: what is told is the same, whatever stands behind a list's end.
func TestRoomBehindCountsForNothing(t *testing.T) {
	h := everything(t)
	bare := handed{Schema: h.Schema, Data: h.Data, Index: h.Index, Create: h.Create, Way: h.Way}
	for _, r := range h.Ups {
		bare.Ups = append(bare.Ups, row(r.Id, r.Vals...))
	}
	bare.Gone = append(bare.Gone, h.Gone...)
	for _, l := range h.Made {
		bare.Made = append(bare.Made, append([]api.Value(nil), l...))
	}
	if a, b := told(t, h), told(t, bare); !reflect.DeepEqual(answerOf(a), answerOf(b)) {
		t.Errorf("rule 6: %s, %s", show(a), show(b))
	}
}
