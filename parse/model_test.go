package parse_test

import (
	"math/big"
	"strings"

	"consistory/api"
	"consistory/lex"
)

// piece: an expression as it is printed; loose: in brackets beside an operator; number: under a minus, too.
type piece struct {
	text          string
	loose, number bool
}

// model reads a statement by the table of the grammar, and writes it as layer 9 prints it.
type model struct {
	tokens  []api.Token
	out     []string // of the statement
	exprs   []piece
	rows    []int // of each row that is open: how many elements it has
	elses   []string
	minuses []bool // of each minus: whether it is an int's
	cols    []string
	keys    []string
	names   []string
	column  string
	last    string // the token that was taken
	sources int
	open    int
	tooMuch bool // at the token that comes next
}

// nameless: a token as the grammar calls it.
func nameless(t api.Token) string {
	switch t.Kind {
	case api.TokEnd:
		return "end"
	case api.TokName:
		return "name"
	case api.TokInt:
		return "int"
	case api.TokText:
		return "text"
	}
	return t.Text
}

// modelTells what Parse has to tell: the statement as it is printed, or the fault.
func modelTells(s string) string {
	tokens, err := lex.Tokens(s)
	if err != nil {
		p := err.(*api.Placed)
		return wrong(p.Err.(api.Class), p.At)
	}
	m := &model{tokens: tokens}
	for left := []string{"whole"}; len(left) > 0; { // the last one comes next
		next := left[len(left)-1]
		left = left[:len(left)-1]
		if isAction(next) {
			m.act(next[1:])
			continue
		}
		t := m.tokens[0]
		if g := theRules; g.ways[next] != nil {
			way, ok := g.take[next][nameless(t)]
			if !ok {
				return wrong(api.ErrSyntax, t.At)
			}
			for i := len(way) - 1; i >= 0; i-- {
				left = append(left, way[i])
			}
			continue
		}
		if nameless(t) != plainToken(next) {
			return wrong(api.ErrSyntax, t.At)
		}
		if m.count(t); m.tooMuch {
			return wrong(api.ErrLimit, t.At)
		}
		m.last = t.Text
		if next != plainToken(next) {
			m.out = append(m.out, t.Text)
		}
		m.tokens = m.tokens[1:]
	}
	return written(m.out)
}

// written puts words together: no blank inside brackets, none ahead of a comma.
func written(l []string) string {
	s := ""
	for i, w := range l {
		if i > 0 && w != "," && w != ")" && l[i-1] != "(" {
			s += " "
		}
		s += w
	}
	return s
}

// count: what a token may be too much for by itself.
func (m *model) count(t api.Token) {
	switch nameless(t) {
	case "name":
		m.tooMuch = m.tooMuch || len(t.Text) > 20
	case "text":
		m.tooMuch = m.tooMuch || len(t.Text) > 40
	case "int":
		most := new(big.Int).Lsh(big.NewInt(1), 63)
		if n := len(m.minuses); n == 0 || !m.minuses[n-1] {
			most.Sub(most, big.NewInt(1))
		}
		n, _ := new(big.Int).SetString(t.Text, 10)
		m.tooMuch = m.tooMuch || n.Cmp(most) > 0
	case "(", "CASE":
		m.opens()
	case ")", "END":
		m.open--
	}
}

func (m *model) opens() {
	m.open++
	m.tooMuch = m.tooMuch || m.open > 30
}

func (m *model) pop() piece {
	n := len(m.exprs) - 1
	p := m.exprs[n]
	m.exprs = m.exprs[:n]
	return p
}

func (m *model) push(s string, loose bool) {
	m.exprs = append(m.exprs, piece{text: s, loose: loose})
}

// popAll pops n of them, and tells them as they came.
func (m *model) popAll(n int) []string {
	l := make([]string, n)
	for i := n - 1; i >= 0; i-- {
		l[i] = m.pop().text
	}
	return l
}

// beside tells a piece as it stands beside an operator.
func (p piece) beside() string {
	if p.loose {
		return "(" + p.text + ")"
	}
	return p.text
}

// act does what the grammar says between tokens: of rows and what is open first, the others write.
func (m *model) act(what string) {
	top := len(m.rows) - 1
	switch what {
	case "row":
		m.rows = append(m.rows, 0)
	case "el":
		m.rows[top]++
		m.tooMuch = m.tooMuch || m.rows[top] > 10
	case "end":
		m.rows = m.rows[:top]
	case "col":
		m.tooMuch = m.tooMuch || len(m.cols) >= 10
	case "key":
		m.tooMuch = m.tooMuch || len(m.keys) >= 10
	case "source":
		m.sources++
		m.tooMuch = m.tooMuch || m.sources > 3
	case "open":
		m.opens()
	case "close":
		m.open--
	case "minus":
		ofInt := m.tokens[1].Kind == api.TokInt
		m.minuses = append(m.minuses, ofInt)
		if !ofInt {
			m.opens()
		}
	case "nonames", "name", "names", "column", "addword", "itself", "primary", "unique", "table":
		m.define(what)
	default:
		m.express(what)
	}
}

// define: names, columns and keys.
func (m *model) define(what string) {
	names := "(" + strings.Join(m.names, ", ") + ")"
	switch what {
	case "nonames":
		m.names = nil
	case "name":
		m.names = append(m.names, m.last)
	case "names":
		m.out = append(m.out, names)
	case "column":
		m.column = m.last
		m.cols = append(m.cols, m.last)
	case "addword":
		m.cols[len(m.cols)-1] += " " + m.last
	case "itself":
		m.names = []string{m.column}
	case "primary":
		m.keys = append(m.keys, "PRIMARY KEY "+names)
	case "unique":
		m.keys = append(m.keys, "UNIQUE "+names)
	case "table":
		m.out = append(m.out, "("+strings.Join(append(m.cols, m.keys...), ", ")+")")
	}
}

// express: expressions.
func (m *model) express(what string) {
	switch what {
	case "e":
		m.out = append(m.out, m.pop().text)
	case "int":
		m.exprs = append(m.exprs, piece{text: m.last, number: true})
	case "text":
		m.push("'"+strings.ReplaceAll(m.last, "'", "''")+"'", false)
	case "word":
		m.push(m.last, false)
	case "dot":
		m.push(m.pop().text+"."+m.last, false)
	case "not":
		m.push("NOT "+m.pop().beside(), true)
	case "isnull":
		m.push(m.pop().beside()+" IS NULL", true)
	case "isnotnull":
		m.push(m.pop().beside()+" IS NOT NULL", true)
	case "minused":
		m.minused()
	case "in":
		l := m.popAll(m.rows[len(m.rows)-1])
		m.rows = m.rows[:len(m.rows)-1]
		m.push(m.pop().beside()+" IN ("+strings.Join(l, ", ")+")", true)
	case "between":
		high, low, x := m.pop().beside(), m.pop().beside(), m.pop().beside()
		m.push("("+x+" >= "+low+") AND ("+x+" <= "+high+")", true)
	case "noelse":
		m.elses = append(m.elses, "")
	case "else":
		m.elses = append(m.elses, " ELSE "+m.pop().text)
	case "case":
		m.cases()
	case "countall":
		m.push("COUNT(*)", false)
	case "COUNT", "SUM", "MIN", "MAX":
		m.push(what+"("+m.pop().text+")", false)
	default:
		right, left := m.pop().beside(), m.pop().beside()
		m.push(left+" "+what+" "+right, true)
	}
}

func (m *model) minused() {
	last := len(m.minuses) - 1
	ofInt := m.minuses[last]
	m.minuses = m.minuses[:last]
	p := m.pop()
	switch {
	case ofInt && p.text == "0":
		m.exprs = append(m.exprs, p)
	case ofInt:
		m.exprs = append(m.exprs, piece{text: "-" + p.text, loose: true, number: true})
	default:
		m.open--
		p.loose = p.loose || p.number
		m.push("- "+p.beside(), true)
	}
}

func (m *model) cases() {
	l := m.popAll(2 * m.rows[len(m.rows)-1])
	m.rows = m.rows[:len(m.rows)-1]
	s := "CASE"
	for i := 0; i < len(l); i += 2 {
		s += " WHEN " + l[i] + " THEN " + l[i+1]
	}
	last := len(m.elses) - 1
	m.push(s+m.elses[last]+" END", false)
	m.elses = m.elses[:last]
}
