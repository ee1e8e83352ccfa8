package lex_test

import (
	"math/big"
	"math/rand"
	"regexp"
	"slices"
	"strconv"
	"strings"
	"testing"

	"consistory/api"
	"consistory/lex"
)

// patterns: of what parts, of names and words, of integers, of texts, of signs. The longer ones stand ahead.
var patterns = regexp.MustCompile(`^(?:([ \t\n\r]|--[^\n]*)|([A-Za-z_][A-Za-z_0-9]*)|([0-9]+)|('(?:[^']|'')*')|(\|\||<>|<=|>=|[(),;.*+\-/%=<>]))`)

// modelTokens: the same by patterns.
func modelTokens(s string) string {
	if len(s) > 2000 {
		return wrong(api.ErrLimit, 0)
	}
	var l []api.Token
	for at := 0; at < len(s); {
		m := patterns.FindStringSubmatch(s[at:])
		if m == nil {
			return wrong(api.ErrSyntax, at)
		}
		x := api.Token{At: at}
		switch at += len(m[0]); {
		case m[2] != "":
			x.Kind, x.Text = api.TokName, strings.ToLower(m[2])
			if slices.Contains(rightWords(), strings.ToUpper(m[2])) {
				x.Kind, x.Text = api.TokWord, strings.ToUpper(m[2])
			}
		case m[3] != "":
			n, _ := new(big.Int).SetString(m[3], 10)
			x.Kind, x.Text = api.TokInt, n.String()
		case m[4] != "":
			if strings.HasPrefix(s[at:], "'") { // what was taken for its end is one of two
				return wrong(api.ErrSyntax, x.At)
			}
			if i := strings.Index(m[4], "\x00"); i >= 0 {
				return wrong(api.ErrSyntax, x.At+i)
			}
			x.Kind, x.Text = api.TokText, strings.ReplaceAll(m[4][1:len(m[4])-1], "''", "'")
		case m[5] != "":
			x.Kind, x.Text = api.TokSign, m[5]
		default:
			continue
		}
		l = append(l, x)
	}
	return show(append(l, api.Token{At: len(s)}))
}

// written tells tokens one behind the other, with blanks between; and with the places that they have there.
func written(l []api.Token) (string, []api.Token) {
	var s strings.Builder
	l = slices.Clone(l)
	for i := range l {
		if i > 0 && l[i].Kind != api.TokEnd {
			s.WriteByte(' ')
		}
		l[i].At = s.Len()
		if l[i].Kind == api.TokText {
			s.WriteString("'" + strings.ReplaceAll(l[i].Text, "'", "''") + "'")
			continue
		}
		s.WriteString(l[i].Text)
	}
	return s.String(), l
}

// check holds Tokens and Name at s against the model, and what is written of the tokens against them.
func check(t *testing.T, s string) {
	t.Helper()
	if got, want := tokens(t, s), modelTokens(s); got != want {
		t.Fatalf("P8.1: %q: %s, want %s", s, got, want)
	}
	isName := len(s) <= 20 && modelTokens(s) == show([]api.Token{{Kind: api.TokName, Text: s}, {At: len(s)}})
	if lex.Name(s) != isName {
		t.Fatalf("P8.2: Name(%q): %v", s, !isName)
	}
	l, err := lex.Tokens(s)
	if err != nil {
		return
	}
	again, places := written(l)
	want := show(places)
	if len(again) > api.MaxSQL {
		want = wrong(api.ErrLimit, 0)
	}
	if got := tokens(t, again); got != want {
		t.Fatalf("P8.3: %q, written as %q: %s, want %s", s, again, got, want)
	}
}

func TestEveryShortText(t *testing.T) {
	everyText(strings.Split("aA_09'-<>=| \n!\x00(", ""), 4, func(s string) { check(t, s) })
	everyText(strings.Split("'a\x00 !", ""), 7, func(s string) { check(t, s) })
	everyText(strings.Split("-<>=|\n", ""), 6, func(s string) { check(t, s) })
	everyText([]string{"I", "n", "T", "o", "_", "0", " "}, 5, func(s string) { check(t, s) })
}

func TestEveryTwoBytes(t *testing.T) {
	var all []string
	for c := range 256 {
		all = append(all, string([]byte{byte(c)}))
	}
	everyText(all, 2, func(s string) { check(t, s) })
}

// chanceText: parts of statements, and seldom a fault among them.
func chanceText(r *rand.Rand, most int) string {
	parts := append(rightWords(), strings.Fields(theSigns)...)
	parts = append(parts, " ", "\t", "\r", "\n", "--", "-- a'\n", "'it''s'", "''", "'\xff\n'", "abc", "X_1", "007", "00", "select")
	var s strings.Builder
	for s.Len() < most {
		switch r.Intn(400) {
		case 0:
			s.WriteByte(byte(r.Intn(256)))
		case 1:
			s.WriteString("'")
		case 2:
			s.WriteString(strconv.FormatUint(r.Uint64(), 10))
		default:
			s.WriteString(parts[r.Intn(len(parts))])
		}
		if r.Intn(2) == 0 {
			s.WriteByte(' ')
		}
	}
	return s.String()
}

func TestLongTexts(t *testing.T) {
	r := rand.New(rand.NewSource(8))
	for range 3000 {
		check(t, chanceText(r, r.Intn(2010)))
	}
}

// TestOrder: what Tokens told of other texts isn't seen in an answer.
func TestOrder(t *testing.T) {
	right := tokens(t, "a<>1")
	for _, s := range []string{"'", "!", "select", strings.Repeat("a", 3000)} {
		tokens(t, s)
		if got := tokens(t, "a<>1"); got != right {
			t.Errorf("rule 6: behind %.9q: %s", s, got)
		}
	}
}

func FuzzTokens(f *testing.F) {
	for _, s := range []string{"SELECT a1 FROM t WHERE b <> 'it''s' -- c\n;", "007||'\x00'", "'x''", "a\xff"} {
		f.Add(s)
	}
	f.Fuzz(func(t *testing.T, s string) { check(t, s) })
}
