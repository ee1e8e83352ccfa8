package lex_test

import (
	"slices"
	"strings"
	"testing"
	"unsafe"

	"consistory/lex"
)

func TestWords(t *testing.T) {
	got := lex.Words()
	if !slices.Equal(got, rightWords()) {
		t.Errorf("P8.2: %v", got)
	}
	if !slices.IsSorted(got) || len(slices.Compact(slices.Clone(got))) != len(got) {
		t.Errorf("P8.2: not rising: %v", got)
	}
}

func TestName(t *testing.T) {
	for _, s := range []string{
		"a", "z", "_", "__", "_1", "a1", "z9_", "x_y", "selects", "_select", "select_", "select1", "selec", "ands", "n",
		strings.Repeat("a", 20), strings.Repeat("_", 20), "a" + strings.Repeat("9", 19),
	} {
		if !lex.Name(s) {
			t.Errorf("P8.2: %q is a name", s)
		}
	}
	for _, s := range []string{
		"", " ", "a ", " a", "a b", "a\n", "\na", "A", "aB", "Abc", "9", "9a", "0_", "a.b", "a-", "-", "--", "a--", "--\na", "'a'", "'", "a'", "a''", "\"a\"",
		"é", "aé", "a\x00", "\x00", "a\xff", "*", "a;", "a/**/", "SELECT", "Select",
		strings.Repeat("a", 21), strings.Repeat("a", 2001), strings.Repeat("a", 20) + " ", "_" + strings.Repeat("_", 20),
	} {
		if lex.Name(s) {
			t.Errorf("P8.2: %q is no name", s)
		}
	}
	for _, w := range rightWords() {
		small := strings.ToLower(w)
		for _, s := range []string{w, small, w[:1] + small[1:]} {
			if lex.Name(s) {
				t.Errorf("P8.2: %q is no name", s)
			}
		}
		if !lex.Name(small+"_") || !lex.Name("_"+small) || lex.Name(w+"_") {
			t.Errorf("P8.2: what is more than %q", small)
		}
	}
}

func TestNameByteByByte(t *testing.T) {
	for c := range 256 {
		s := string([]byte{byte(c)})
		first := strings.Contains(smallLetters+"_", s)
		later := first || strings.Contains(digits, s)
		if lex.Name(s) != first || lex.Name(s+"q") != first {
			t.Errorf("P8.2: %q first", s)
		}
		if lex.Name("q"+s) != later || lex.Name("q"+s+"q") != later || lex.Name(strings.Repeat("q", 19)+s) != later {
			t.Errorf("P8.2: %q behind a letter", s)
		}
	}
}

// TestAnswersAreNewMemory: neither what is done with an answer nor what becomes of a statement's bytes is seen in another answer.
func TestAnswersAreNewMemory(t *testing.T) {
	words := lex.Words()
	words = words[:cap(words)]
	for i := range words {
		words[i] = "A"
	}
	if !slices.Equal(lex.Words(), rightWords()) || lex.Name("select") || !lex.Name("a") {
		t.Error("rule 3: Words")
	}
	b := []byte("SELECT abc Abc 12 012 'x' 'y''z' <> ;")
	const right = `word "SELECT" 0, name "abc" 7, name "abc" 11, int "12" 15, int "12" 18, text "x" 22, text "y'z" 26, sign "<>" 33, sign ";" 36, end "" 37`
	l, _ := lex.Tokens(unsafe.String(&b[0], len(b)))
	for i := range b {
		b[i] = '!'
	}
	if got := show(l); got != right {
		t.Errorf("rule 3: the statement's bytes are kept: %s", got)
	}
	b = []byte("a b")
	one, _ := lex.Tokens(string(b))
	two, _ := lex.Tokens(string(b))
	one = one[:cap(one)]
	for i := range one {
		one[i].Text = "other"
	}
	if got := show(two); got != `name "a" 0, name "b" 2, end "" 3` {
		t.Errorf("rule 3: Tokens: %s", got)
	}
}
