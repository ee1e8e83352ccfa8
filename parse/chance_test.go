package parse_test

import (
	"slices"
	"strings"
	"testing"

	"consistory/api"
	"consistory/lex"
	"consistory/parse"
	"consistory/tree"
)

// check holds Parse at s against the model, and what is printed of its answer against it.
func check(t *testing.T, s string) {
	t.Helper()
	want := modelTells(s)
	if got := told(t, s); got != want {
		t.Fatalf("P10.1, P10.2: %q: %s, want %s", s, got, want)
	}
	if x, err := parse.Parse(s); err == nil {
		readAgain(t, x)
	}
}

// readAgain: what is printed is read as the same, unless it has become too long or too deep for that.
func readAgain(t *testing.T, x api.Stmt) {
	t.Helper()
	s, err := tree.Print(x)
	if err != nil || !isBare(x) {
		t.Fatalf("P10.3: %v: %+v", err, x)
	}
	again, err := parse.Parse(s)
	if len(s) > api.MaxSQL || tree.Depth(x) > api.MaxDepth {
		if err == nil || !strings.HasPrefix(fault(t, err), "class 2 ") {
			t.Fatalf("P10.3: %q: %v", s, err)
		}
		return
	}
	if err != nil || !equal(x, again) || !tree.Same(x, again) {
		t.Fatalf("P10.3: %q: %v, %+v, want %+v", s, err, again, x)
	}
}

// spelling tells a token as somebody may write it.
func (c chance) spelling(token string) string {
	switch token {
	case "end":
		return ""
	case "name":
		return pick(c, []string{"a", "b", "T", "u_1", "_", "counts", strings.Repeat("n", 19) + "N"})
	case "int":
		return pick(c, []string{"0", "1", "007", "42", "9223372036854775807"})
	case "text":
		return pick(c, []string{"''", "'x'", "'it''s'", "'='", "'SELECT'", "'\xff -- \n'", "'" + strings.Repeat("''", 40) + "'"})
	}
	if c(4) == 0 {
		return strings.ToLower(token)
	}
	return token
}

// odd tells a token as it is too much, if there is such a one.
func (c chance) odd(token string) string {
	switch token {
	case "name":
		return strings.Repeat("n", 21)
	case "int":
		return pick(c, []string{"9223372036854775808", "9223372036854775809", "99999999999999999999"})
	case "text":
		return "'" + strings.Repeat("''", 41) + "'"
	}
	return c.spelling(token)
}

// sentence tells tokens of a part, as the grammar calls them: such of which one in greed goes on where it could end, as long as there is room.
func (c chance) sentence(part string, greed int, room *int) []string {
	if isAction(part) {
		return nil
	}
	ways := theRules.ways[part]
	if ways == nil {
		*room--
		return []string{plainToken(part)}
	}
	way := pick(c, ways)
	if len(ways[0]) == 0 && c(greed) > 0 && *room > 0 {
		way = ways[1+c(len(ways)-1)]
	}
	if *room < 0 {
		way = plainest(part)
	}
	var out []string
	for _, s := range way {
		out = append(out, c.sentence(s, greed, room)...)
	}
	return out
}

// plainest tells the way of a part by which it soon ends.
func plainest(part string) []string {
	ways := theRules.ways[part]
	switch part {
	case "factor":
		return []string{"name", "dot"}
	case "not":
		return []string{"test"}
	case "else":
		return nil
	}
	return ways[0]
}

func (c chance) tokens(greed int) []string {
	room := 5 + c(120)
	return c.sentence("stmt", greed, &room)
}

// text writes tokens, with blanks where there must be one, and seldom more.
func (c chance) text(l []string, odd int) string {
	s := ""
	for _, token := range l {
		if s != "" {
			s += pick(c, []string{" ", " ", " ", " ", "\n", "\t", "\r", " -- x'\n", "  "})
		}
		if c(odd) == 0 {
			s += c.odd(token)
		} else {
			s += c.spelling(token)
		}
	}
	return s
}

const never = 1 << 30

func TestChanceStatements(t *testing.T) {
	t.Parallel()
	c := byChance(10)
	kinds, good := map[int]int{}, 0
	for range 6000 {
		s := c.text(c.tokens(1+c(4)), never)
		check(t, s)
		if x, err := parse.Parse(s); err == nil {
			kinds[x.Kind]++
			good++
		}
	}
	for kind := api.SCreate; kind <= api.SSelect; kind++ {
		if kinds[kind] < 100 {
			t.Errorf("only %d of kind %d", kinds[kind], kind)
		}
	}
	if good < 4000 {
		t.Errorf("only %d could be read", good)
	}
}

// spoil changes a token, leaves one out, puts one in or cuts the rest off.
func (c chance) spoil(l []string) []string {
	i := c(len(l) + 1)
	out := append([]string{}, l[:i]...)
	rest := l[i:]
	switch c(4) {
	case 0:
		return append(append(out, pick(c, theRules.all)), rest...)
	case 1:
		if len(rest) > 0 {
			return append(append(out, pick(c, theRules.all)), rest[1:]...)
		}
	case 2:
		if len(rest) > 0 {
			return append(out, rest[1:]...)
		}
	}
	return out
}

func TestChanceFaults(t *testing.T) {
	t.Parallel()
	c := byChance(11)
	faults := map[string]int{}
	for range 12000 {
		l := c.tokens(1 + c(4))
		for range c(3) {
			l = c.spoil(l)
		}
		s := c.text(l, 40)
		check(t, s)
		if _, err := parse.Parse(s); err != nil {
			faults[fault(t, err)[:7]]++
		}
	}
	if faults["class 1"] < 4000 || faults["class 2"] < 1500 {
		t.Errorf("only %v", faults)
	}
}

// fullest: statements with all that may be in one.
var fullest = []string{
	"CREATE TABLE t (a INT NOT NULL PRIMARY KEY UNIQUE, b TEXT, PRIMARY KEY (a, b), UNIQUE (b), c BOOL UNIQUE);",
	"CREATE UNIQUE INDEX i ON t (a, b)",
	"CREATE INDEX i ON t (a)",
	"DROP TABLE t",
	"DROP INDEX i;",
	"INSERT INTO t (a, b) VALUES (1, - a), (-2, 'x')",
	"UPDATE t SET a = 1, b = NULL WHERE NOT a",
	"DELETE FROM t WHERE TRUE",
	"SELECT DISTINCT *, a AS x FROM t u LEFT JOIN v ON a JOIN w z ON b WHERE a GROUP BY a, b HAVING b ORDER BY a ASC, b DESC LIMIT 5;",
	"SELECT a FROM t WHERE NOT a = b AND a <> b OR a + - b * t.c < - 1",
	"SELECT a IS NULL, a IS NOT NULL, a NOT IN (1, 2), a IN (1), a BETWEEN 1 AND 2 AND b, a NOT BETWEEN b AND c FROM t",
	"SELECT CASE WHEN a THEN 1 WHEN b THEN 2 ELSE 3 END, COUNT(*), COUNT(a), SUM(a), MIN((a)), MAX(CASE WHEN a THEN b END) FROM t",
}

// TestEveryTokenAtEveryPlace: instead of each token of statements with all that may be, and ahead of it, each token that there is.
func TestEveryTokenAtEveryPlace(t *testing.T) {
	t.Parallel()
	c := byChance(12)
	for _, s := range fullest {
		if got := told(t, s); strings.HasPrefix(got, "class") {
			t.Fatalf("P10.1: %q: %s", s, got)
		}
		l, err := lex.Tokens(s)
		if err != nil {
			t.Fatal(err)
		}
		for i, at := range l[:len(l)-1] {
			for _, token := range slices.Concat(theRules.all, []string{"end"}) {
				other := c.spelling(token)
				check(t, s[:at.At]+other+" "+s[l[i+1].At:])
				check(t, s[:at.At]+other+" "+s[at.At:])
				check(t, s[:at.At]+other)
			}
		}
		for i := range s {
			check(t, s[:i])
		}
	}
}

// everyRow calls visit with all rows of at most most words, blanks between.
func everyRow(words []string, most int, visit func(string)) {
	var grow func(s string, n int)
	grow = func(s string, n int) {
		visit(s)
		for i := 0; i < len(words) && n < most; i++ {
			grow(s+" "+words[i], n+1)
		}
	}
	grow("", 0)
}

func TestEveryShortExpression(t *testing.T) {
	t.Parallel()
	for _, c := range []struct {
		words string
		most  int
	}{
		{"a 1 'x' NULL TRUE ( ) , . * + - || = < IS NOT IN BETWEEN AND OR CASE WHEN END COUNT ;", 3},
		{"a 1 - NOT = AND OR + *", 5},
		{"a ( ) - 1 NOT IN", 5},
		{"a BETWEEN AND NOT 1", 6},
		{"a IS NOT NULL", 6},
		{"CASE WHEN THEN ELSE END a", 6},
		{"COUNT SUM ( * ) a", 6},
	} {
		everyRow(strings.Fields(c.words), c.most, func(s string) { check(t, "DELETE FROM t WHERE"+s) })
	}
	everyRow(strings.Fields("( ) a 1 , NOT -"), 5, func(s string) { check(t, "INSERT INTO t VALUES"+s) })
}

func TestEveryShortStatement(t *testing.T) {
	t.Parallel()
	for _, c := range []struct {
		begin, words string
		most         int
	}{
		{"", "CREATE UNIQUE TABLE INDEX DROP INSERT INTO UPDATE DELETE FROM SELECT DISTINCT a * ;", 3},
		{"CREATE TABLE t (", "a INT TEXT BOOL NOT NULL PRIMARY KEY UNIQUE ( ) ,", 4},
		{"CREATE TABLE t (a INT,", "a INT PRIMARY KEY UNIQUE ( ) ,", 5},
		{"CREATE TABLE t (a INT", "NOT NULL PRIMARY KEY UNIQUE )", 6},
		{"CREATE INDEX i", "a ON ( ) , ;", 5},
		{"INSERT INTO t", "a VALUES ( ) , 1", 5},
		{"UPDATE t SET", "a = , WHERE ;", 6},
		{"SELECT a FROM t", "a LEFT JOIN ON WHERE ,", 6},
		{"SELECT a FROM t", "GROUP ORDER BY HAVING LIMIT 1 DESC ASC WHERE ;", 4},
		{"SELECT", "* , a AS FROM DISTINCT", 5},
	} {
		everyRow(strings.Fields(c.words), c.most, func(s string) { check(t, c.begin+s) })
	}
}

// TestChanceBytes: whatever bytes there are, Parse answers.
func TestChanceBytes(t *testing.T) {
	t.Parallel()
	c := byChance(13)
	for range 20000 {
		b := []byte(c.text(c.tokens(2), 40))
		for range 1 + c(3) {
			b[c(len(b))] = pick(c, []byte{0, '\'', '-', '(', ')', ' ', '\n', 'a', '1', ';', '|', 0xff, byte(c(256))})
		}
		check(t, string(b[c(2)*c(len(b)):]))
	}
	for range 2000 {
		b := make([]byte, c(2100))
		for i := range b {
			b[i] = byte(c(256))
		}
		check(t, string(b))
	}
}

func FuzzParse(f *testing.F) {
	for _, s := range fullest {
		f.Add(s)
	}
	f.Fuzz(func(t *testing.T, s string) {
		if strings.Count(strings.ToUpper(s), "BETWEEN") < 12 { // each may double what is told
			check(t, s)
		}
	})
}
