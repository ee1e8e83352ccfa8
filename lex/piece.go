package lex

import (
	"errors"
	"slices"
	"strings"

	"consistory/api"
)

// parting: the kind of a piece that is no token; no piece is an end.
const parting = api.TokEnd

// Kinds of bytes, by what may begin with them.
const (
	strange = iota // nothing
	blank
	letter
	digit
	quote
	minus // a remark, if there are two; else a sign
	sign  // or nothing, if it is but half of one
)

func kindOf(c byte) int {
	switch {
	case 'a' <= c && c <= 'z' || 'A' <= c && c <= 'Z' || c == '_':
		return letter
	case '0' <= c && c <= '9':
		return digit
	}
	switch c {
	case ' ', '\t', '\n', '\r':
		return blank
	case '\'':
		return quote
	case '-':
		return minus
	case '(', ')', ',', ';', '.', '*', '+', '/', '%', '=', '<', '>', '|':
		return sign
	}
	return strange
}

// piece tells the kind of what stands at s's beginning (of a word that of a name), and how many bytes it has.
func piece(s string) (int, int, error) {
	switch kind := kindOf(s[0]); kind {
	case blank:
		return parting, 1, nil
	case letter:
		return api.TokName, sizeOfRun(s, kind), nil
	case digit:
		return api.TokInt, sizeOfRun(s, kind), nil
	case quote:
		size, err := sizeOfText(s)
		if err != nil {
			return 0, 0, err
		}
		return api.TokText, size, nil
	case minus:
		if strings.HasPrefix(s, "--") {
			return parting, sizeOfRemark(s), nil
		}
		fallthrough
	case sign:
		if size := sizeOfSign(s); size > 0 {
			return api.TokSign, size, nil
		}
		fallthrough
	default:
		return 0, 0, api.ErrSyntax
	}
}

// sizeOfRun tells the size of the name or the number that begins with a byte of that kind.
func sizeOfRun(s string, kind int) int {
	size := 1
	for size < len(s) && goesOn(kind, s[size]) {
		size++
	}
	return size
}

// goesOn: whether c belongs to what began with a byte of that kind. All that a number takes a name takes, too.
func goesOn(kind int, c byte) bool {
	switch kindOf(c) {
	case letter:
		if kind != letter {
			return false
		}
		fallthrough
	case digit:
		return true
	}
	return false
}

// sizeOfText tells the size of a text; its faults are placed from its own beginning on, the lack of an end not at all.
func sizeOfText(s string) (int, error) {
	size := 1
	for {
		end := strings.IndexByte(s[size:], '\'')
		if end < 0 {
			return 0, api.ErrSyntax
		}
		size += end + 1
		if !strings.HasPrefix(s[size:], "'") {
			break
		}
		size++
	}
	if at := strings.IndexByte(s[:size], 0); at >= 0 {
		return 0, placed(api.ErrSyntax, at)
	}
	return size, nil
}

// sizeOfRemark: the line feed isn't counted, it parts by itself.
func sizeOfRemark(s string) int {
	end := strings.IndexByte(s, '\n')
	if end < 0 {
		return len(s)
	}
	return end
}

// sizeOfSign tells the size of the longest sign; 0, if there is none.
func sizeOfSign(s string) int {
	behind := s[1:]
	switch s[0] {
	case '|':
		if !strings.HasPrefix(behind, "|") {
			return 0
		}
		return 2
	case '<':
		if strings.HasPrefix(behind, ">") {
			return 2
		}
		fallthrough
	case '>':
		if strings.HasPrefix(behind, "=") {
			return 2
		}
	}
	return 1
}

// token tells what a piece of that kind says. Its text is new memory: it doesn't hold on to the statement.
func token(kind int, s string, words []string) api.Token {
	switch kind {
	case api.TokName:
		great := strings.ToUpper(s)
		if _, found := slices.BinarySearch(words, great); found {
			kind, s = api.TokWord, great
		} else {
			s = strings.ToLower(s)
		}
	case api.TokInt:
		last := len(s) - 1
		s = strings.TrimLeft(s[:last], "0") + s[last:]
	case api.TokText:
		s = strings.ReplaceAll(s[1:len(s)-1], "''", "'")
	}
	return api.Token{Kind: kind, Text: strings.Clone(s)}
}

// placed tells err of what begins at that byte by its place in the whole.
func placed(err error, at int) error {
	var p *api.Placed
	if errors.As(err, &p) {
		return &api.Placed{At: at + p.At, Err: p.Err}
	}
	return &api.Placed{At: at, Err: err}
}
