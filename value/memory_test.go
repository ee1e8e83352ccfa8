package value_test

import (
	"bytes"
	"slices"
	"testing"

	"consistory/api"
	"consistory/value"
)

// TestNothingHandedInIsChanged: neither what is handed in nor the room behind it.
func TestNothingHandedInIsChanged(t *testing.T) {
	all := append(rising(), wrong()...)
	before := slices.Clone(all)
	for n := range len(all) - 3 {
		value.Rows(all[:n], all[1:n+2])
		value.Key(all[:n])
		value.Key(all[n : n+2])
	}
	if !slices.Equal(all, before) {
		t.Errorf("rule 3: %v was changed to %v", before, all)
	}
	room, _ := value.Key(row(integer(5), textOf("ab"), null, yes, textOf("")))
	same := bytes.Clone(room)
	for n := range room {
		value.Unkey(room[:n])
	}
	value.Unkey(room)
	if !bytes.Equal(room, same) {
		t.Errorf("rule 3: %x was changed to %x", same, room)
	}
}

func TestAnswersAreNewMemory(t *testing.T) {
	l := row(textOf("abc"), integer(7), null)
	first, _ := value.Key(l)
	second, _ := value.Key(l)
	right := bytes.Clone(second)
	scribble(first, 0x5A)
	if !bytes.Equal(second, right) {
		t.Errorf("rule 3: Key: %x", second)
	}
	one, _ := value.Unkey(second)
	two, _ := value.Unkey(second)
	scribble(second, 0x5A)
	scribble(one, api.Value{Kind: 77})
	if !slices.Equal(two, l) {
		t.Errorf("rule 3: Unkey: %v", two)
	}
	scribble(l, api.Value{Kind: 77})
	if got, err := value.Unkey(right); !slices.Equal(got, two) || err != nil {
		t.Errorf("rule 3: Unkey: %v, %v", got, err)
	}
}

// scribble writes over all of l and the room behind it.
func scribble[T any](l []T, with T) {
	l = l[:cap(l)]
	for i := range l {
		l[i] = with
	}
}
