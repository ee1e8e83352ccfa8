package lex_test

import (
	"strconv"
	"strings"
	"testing"

	"consistory/api"
)

// wantTokens holds what Tokens tells of each text against the right thing, in pairs.
func wantTokens(t *testing.T, pairs [][2]string) {
	t.Helper()
	for _, c := range pairs {
		if got := tokens(t, c[0]); got != c[1] {
			t.Errorf("P8.1: %q: %s, want %s", c[0], got, c[1])
		}
	}
}

func TestParting(t *testing.T) {
	wantTokens(t, [][2]string{
		{"", `end "" 0`},
		{" ", `end "" 1`},
		{" \t\n\r", `end "" 4`},
		{"a b\tc\nd\re", `name "a" 0, name "b" 2, name "c" 4, name "d" 6, name "e" 8, end "" 9`},
		{"  a  ", `name "a" 2, end "" 5`},
		{"a\vb", wrong(api.ErrSyntax, 1)},
		{"a\fb", wrong(api.ErrSyntax, 1)},
		{"a\u00a0b", wrong(api.ErrSyntax, 1)},
	})
}

func TestRemarks(t *testing.T) {
	wantTokens(t, [][2]string{
		{"--", `end "" 2`},
		{"--\n", `end "" 3`},
		{"---", `end "" 3`},
		{"- -", `sign "-" 0, sign "-" 2, end "" 3`},
		{"-\n-", `sign "-" 0, sign "-" 2, end "" 3`},
		{"a--b", `name "a" 0, end "" 4`},
		{"a--b\nc", `name "a" 0, name "c" 5, end "" 6`},
		{"a--b\rc", `name "a" 0, end "" 6`},
		{"a--b\r\nc", `name "a" 0, name "c" 6, end "" 7`},
		{"a--\nb--\n\nc--", `name "a" 0, name "b" 4, name "c" 9, end "" 12`},
		{"1--1", `int "1" 0, end "" 4`},
		{"<--", `sign "<" 0, end "" 3`},
		{"+--1\n1", `sign "+" 0, int "1" 5, end "" 6`},
		{"--'\na", `name "a" 4, end "" 5`},
		{"-- \x00\xff!\"'|\n;", `sign ";" 10, end "" 11`},
		{"-- é\n!", wrong(api.ErrSyntax, 6)},
		{"'--'", `text "--" 0, end "" 4`},
		{"'a--\n'--'", `text "a--\n" 0, end "" 9`},
	})
}

func TestNamesAndWords(t *testing.T) {
	wantTokens(t, [][2]string{
		{"a", `name "a" 0, end "" 1`},
		{"_", `name "_" 0, end "" 1`},
		{"_9", `name "_9" 0, end "" 2`},
		{"a1_B2", `name "a1_b2" 0, end "" 5`},
		{"ABC abc AbC", `name "abc" 0, name "abc" 4, name "abc" 8, end "" 11`},
		{"select SELECT sElEcT", `word "SELECT" 0, word "SELECT" 7, word "SELECT" 14, end "" 20`},
		{"selects SELECT1 _select select_ selec", `name "selects" 0, name "select1" 8, name "_select" 16, name "select_" 24, name "selec" 32, end "" 37`},
		{"in int into", `word "IN" 0, word "INT" 3, word "INTO" 7, end "" 11`},
		{"in1 intos i", `name "in1" 0, name "intos" 4, name "i" 10, end "" 11`},
		{"aé", wrong(api.ErrSyntax, 1)},
		{"ſelect", wrong(api.ErrSyntax, 0)}, // in great letters a word, but no letter of SQL
		{"\"a\"", wrong(api.ErrSyntax, 0)},
		{"a$", wrong(api.ErrSyntax, 1)},
		{smallLetters + "_" + digits, `name "` + smallLetters + "_" + digits + `" 0, end "" 37`},
		{greatLetters + "_" + digits, `name "` + smallLetters + "_" + digits + `" 0, end "" 37`},
		{strings.Repeat("N", 2000), `name "` + strings.Repeat("n", 2000) + `" 0, end "" 2000`},
	})
	for _, w := range rightWords() {
		for _, s := range []string{w, strings.ToLower(w), w[:1] + strings.ToLower(w[1:])} {
			end := strconv.Itoa(len(w))
			wantTokens(t, [][2]string{
				{s, `word "` + w + `" 0, end "" ` + end},
				{s + "_", `name "` + strings.ToLower(w) + `_" 0, end "" ` + strconv.Itoa(len(w)+1)},
				{"0" + s, `int "0" 0, word "` + w + `" 1, end "" ` + strconv.Itoa(len(w)+1)},
			})
		}
	}
}

func TestInts(t *testing.T) {
	long := strings.Repeat("9", 1998)
	wantTokens(t, [][2]string{
		{"0", `int "0" 0, end "" 1`},
		{"00", `int "0" 0, end "" 2`},
		{"007", `int "7" 0, end "" 3`},
		{"0070", `int "70" 0, end "" 4`},
		{"100", `int "100" 0, end "" 3`},
		{digits, `int "123456789" 0, end "" 10`},
		{"1 2", `int "1" 0, int "2" 2, end "" 3`},
		{"1a2", `int "1" 0, name "a2" 1, end "" 3`},
		{"1_", `int "1" 0, name "_" 1, end "" 2`},
		{"0x1F", `int "0" 0, name "x1f" 1, end "" 4`},
		{"1e5", `int "1" 0, name "e5" 1, end "" 3`},
		{"1.50", `int "1" 0, sign "." 1, int "50" 2, end "" 4`},
		{"1.05", `int "1" 0, sign "." 1, int "5" 2, end "" 4`},
		{"-1", `sign "-" 0, int "1" 1, end "" 2`},
		{"9223372036854775808", `int "9223372036854775808" 0, end "" 19`},
		{"00" + long, `int "` + long + `" 0, end "" 2000`},
		{strings.Repeat("0", 2000), `int "0" 0, end "" 2000`},
		{"١", wrong(api.ErrSyntax, 0)}, // a digit, but none of SQL
	})
}

func TestTexts(t *testing.T) {
	wantTokens(t, [][2]string{
		{"''", `text "" 0, end "" 2`},
		{"'a'", `text "a" 0, end "" 3`},
		{"''''", `text "'" 0, end "" 4`},
		{"''''''", `text "''" 0, end "" 6`},
		{"'a''b'''", `text "a'b'" 0, end "" 8`},
		{"'a' 'b'", `text "a" 0, text "b" 4, end "" 7`},
		{"'a'''b", `text "a'" 0, name "b" 5, end "" 6`},
		{"'a'b'c'", `text "a" 0, name "b" 3, text "c" 4, end "" 7`},
		{"x'a'", `name "x" 0, text "a" 1, end "" 4`},
		{"1'a'1", `int "1" 0, text "a" 1, int "1" 4, end "" 5`},
		{"'Ab SELECT  007 \t\r\n -- <> !\"|'", `text "Ab SELECT  007 \t\r\n -- <> !\"|" 0, end "" 30`},
		{"'\x01\x7f\x80\xff'", `text "\x01\x7f\x80\xff" 0, end "" 6`},
		{"'é\\'", `text "é\\" 0, end "" 5`},
		{"'" + strings.Repeat("t", 1998) + "'", `text "` + strings.Repeat("t", 1998) + `" 0, end "" 2000`},
		{strings.Repeat("'", 2000), `text "` + strings.Repeat("'", 999) + `" 0, end "" 2000`},
	})
}

func TestTextsWithoutAnEnd(t *testing.T) {
	wantTokens(t, [][2]string{
		{"'", wrong(api.ErrSyntax, 0)},
		{"'x", wrong(api.ErrSyntax, 0)},
		{"'''", wrong(api.ErrSyntax, 0)},
		{"'x''", wrong(api.ErrSyntax, 0)},
		{"'x'''''' y", wrong(api.ErrSyntax, 0)},
		{" a 'x\n", wrong(api.ErrSyntax, 3)},
		{"'a' 'b", wrong(api.ErrSyntax, 4)},
		{"'a'''b'", wrong(api.ErrSyntax, 6)},
		{"'a !", wrong(api.ErrSyntax, 0)},
		{strings.Repeat("'", 1999), wrong(api.ErrSyntax, 0)},
	})
}

func TestZerosInTexts(t *testing.T) {
	wantTokens(t, [][2]string{
		{"'\x00'", wrong(api.ErrSyntax, 1)},
		{"'a\x00b' !", wrong(api.ErrSyntax, 2)},
		{"a 'b''\x00c\x00'", wrong(api.ErrSyntax, 6)},
		{"'a' '\x00'", wrong(api.ErrSyntax, 5)},
		{"'a\x00", wrong(api.ErrSyntax, 0)}, // without an end that is the fault
		{"'a\x00''", wrong(api.ErrSyntax, 0)},
		{"'a' \x00", wrong(api.ErrSyntax, 4)},
		{"'a'\x00'", wrong(api.ErrSyntax, 3)},
	})
}

func TestSigns(t *testing.T) {
	wantTokens(t, [][2]string{
		{"a<>1", `name "a" 0, sign "<>" 1, int "1" 3, end "" 4`},
		{"(),;.*+-/%=", `sign "(" 0, sign ")" 1, sign "," 2, sign ";" 3, sign "." 4, sign "*" 5, sign "+" 6, sign "-" 7, sign "/" 8, sign "%" 9, sign "=" 10, end "" 11`},
		{"<=<>=>==", `sign "<=" 0, sign "<>" 2, sign "=" 4, sign ">=" 5, sign "=" 7, end "" 8`},
		{"<<><", `sign "<" 0, sign "<>" 1, sign "<" 3, end "" 4`},
		{"><", `sign ">" 0, sign "<" 1, end "" 2`},
		{">>=", `sign ">" 0, sign ">=" 1, end "" 3`},
		{"=<", `sign "=" 0, sign "<" 1, end "" 2`},
		{"=>", `sign "=" 0, sign ">" 1, end "" 2`},
		{"< = > =", `sign "<" 0, sign "=" 2, sign ">" 4, sign "=" 6, end "" 7`},
		{"||||", `sign "||" 0, sign "||" 2, end "" 4`},
		{"a||b|", wrong(api.ErrSyntax, 4)},
		{"|", wrong(api.ErrSyntax, 0)},
		{"|||", wrong(api.ErrSyntax, 2)},
		{"| |", wrong(api.ErrSyntax, 0)},
		{"|=", wrong(api.ErrSyntax, 0)},
		{"a!=b", wrong(api.ErrSyntax, 1)},
	})
	for _, sign := range strings.Fields(theSigns) {
		want := `name "a" 0, sign "` + sign + `" 1, name "b" ` + strconv.Itoa(1+len(sign)) + `, end "" ` + strconv.Itoa(2+len(sign))
		wantTokens(t, [][2]string{{"a" + sign + "b", want}})
	}
}

// TestEachByte: alone, and behind a name that it may go on with.
func TestEachByte(t *testing.T) {
	for c := range 256 {
		s := string([]byte{byte(c)})
		alone, behind := wrong(api.ErrSyntax, 0), wrong(api.ErrSyntax, 1)
		switch {
		case strings.Contains(smallLetters+"_", s), strings.Contains(greatLetters, s):
			small := strings.ToLower(s)
			alone, behind = `name "`+small+`" 0, end "" 1`, `name "z`+small+`" 0, end "" 2`
		case strings.Contains(digits, s):
			alone, behind = `int "`+s+`" 0, end "" 1`, `name "z`+s+`" 0, end "" 2`
		case strings.Contains(" \t\n\r", s):
			alone, behind = `end "" 1`, `name "z" 0, end "" 2`
		case strings.Contains("(),;.*+-/%=<>", s):
			alone, behind = `sign "`+s+`" 0, end "" 1`, `name "z" 0, sign "`+s+`" 1, end "" 2`
		}
		wantTokens(t, [][2]string{{s, alone}, {"z" + s, behind}})
	}
}

func TestLimit(t *testing.T) {
	wantTokens(t, [][2]string{
		{strings.Repeat(" ", api.MaxSQL), `end "" 2000`},
		{strings.Repeat(" ", api.MaxSQL-1) + "a", `name "a" 1999, end "" 2000`},
		{strings.Repeat(" ", api.MaxSQL-1) + "!", wrong(api.ErrSyntax, 1999)},
		{strings.Repeat(" ", api.MaxSQL-1) + "'", wrong(api.ErrSyntax, 1999)},
		{strings.Repeat(" ", api.MaxSQL+1), wrong(api.ErrLimit, 0)},
		{strings.Repeat("a", api.MaxSQL+1), wrong(api.ErrLimit, 0)},
		{strings.Repeat("!", api.MaxSQL+1), wrong(api.ErrLimit, 0)},
		{strings.Repeat("é", api.MaxSQL/2) + "a", wrong(api.ErrLimit, 0)},
		{"--" + strings.Repeat(" ", api.MaxSQL), wrong(api.ErrLimit, 0)},
		{"'" + strings.Repeat(" ", 1<<20), wrong(api.ErrLimit, 0)},
	})
}

func TestFirstError(t *testing.T) {
	wantTokens(t, [][2]string{
		{"! '", wrong(api.ErrSyntax, 0)},
		{"' !", wrong(api.ErrSyntax, 0)},
		{"a ! # $", wrong(api.ErrSyntax, 2)},
		{"'\x00' '", wrong(api.ErrSyntax, 1)},
		{"--!\n a | '\x00'", wrong(api.ErrSyntax, 7)},
	})
}
