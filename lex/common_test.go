package lex_test

import (
	"errors"
	"strconv"
	"strings"
	"testing"

	"consistory/api"
	"consistory/lex"
)

// theWords: as the chapter has them.
const theWords = "AND, AS, ASC, BETWEEN, BOOL, BY, CASE, COUNT, CREATE, DELETE, DESC, DISTINCT, DROP, ELSE, END, FALSE, FROM, GROUP, HAVING, IN, INDEX, INSERT, INT, INTO, IS, JOIN, KEY, LEFT, LIMIT, MAX, MIN, NOT, NULL, ON, OR, ORDER, PRIMARY, SELECT, SET, SUM, TABLE, TEXT, THEN, TRUE, UNIQUE, UPDATE, VALUES, WHEN, WHERE"

func rightWords() []string { return strings.Split(theWords, ", ") }

// theSigns: as the chapter has them.
const theSigns = "( ) , ; . * + - / % = <> < <= > >= ||"

const (
	smallLetters = "abcdefghijklmnopqrstuvwxyz"
	greatLetters = "ABCDEFGHIJKLMNOPQRSTUVWXYZ"
	digits       = "0123456789"
)

// classes: all that there are, of which an error has just one.
var classes = []api.Class{
	api.ErrSyntax, api.ErrLimit, api.ErrName, api.ErrType, api.ErrConstraint, api.ErrOverflow, api.ErrZero,
	api.ErrForm, api.ErrSum, api.ErrShort, api.ErrFile, api.ErrFull, api.ErrDown, api.ErrPlace,
	api.ErrNode, api.ErrLead, api.ErrWait, api.ErrBusy, api.ErrLine,
}

// fault tells an error's class and place, and that it has no other class.
func fault(t *testing.T, err error) string {
	t.Helper()
	var c api.Class
	var p *api.Placed
	if !errors.As(err, &c) || !errors.As(err, &p) {
		t.Fatalf("an error without a class or a place: %v", err)
	}
	for _, other := range classes {
		if errors.Is(err, other) != (other == c) {
			t.Fatalf("%v: of class %d, and of %d", err, c, other)
		}
	}
	return wrong(c, p.At)
}

func wrong(c api.Class, at int) string {
	return "class " + strconv.Itoa(int(c)) + " at " + strconv.Itoa(at)
}

// show tells tokens one by one, each by its kind, its text and its place.
func show(l []api.Token) string {
	kinds := [...]string{api.TokEnd: "end", api.TokName: "name", api.TokWord: "word", api.TokInt: "int", api.TokText: "text", api.TokSign: "sign"}
	var out []string
	for _, x := range l {
		kind := "kind " + strconv.Itoa(x.Kind)
		if x.Kind >= 0 && x.Kind < len(kinds) {
			kind = kinds[x.Kind]
		}
		out = append(out, kind+" "+strconv.Quote(x.Text)+" "+strconv.Itoa(x.At))
	}
	return strings.Join(out, ", ")
}

// tokens shows what lex.Tokens answers.
func tokens(t *testing.T, s string) string {
	t.Helper()
	l, err := lex.Tokens(s)
	if err == nil {
		return show(l)
	}
	if len(l) != 0 {
		t.Errorf("rule 4: %q: %s beside %v", s, show(l), err)
	}
	return fault(t, err)
}

// everyText calls visit with all texts of at most most parts of the alphabet.
func everyText(alphabet []string, most int, visit func(string)) {
	var grow func(s string, parts int)
	grow = func(s string, parts int) {
		visit(s)
		for i := 0; i < len(alphabet) && parts < most; i++ {
			grow(s+alphabet[i], parts+1)
		}
	}
	grow("", 0)
}
