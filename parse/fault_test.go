package parse_test

import (
	"strings"
	"testing"

	"consistory/api"
)

// placed tells a text without its mark @, and where that stood.
func placed(t *testing.T, s string) (string, int) {
	t.Helper()
	at := strings.Index(s, "@")
	if at < 0 || strings.Count(s, "@") != 1 {
		t.Fatalf("%q has no place", s)
	}
	return s[:at] + s[at+1:], at
}

// fails: s must be refused at its @.
func fails(t *testing.T, s string, class api.Class) {
	t.Helper()
	s, at := placed(t, s)
	if got := told(t, s); got != wrong(class, at) {
		t.Errorf("P10.2: %q: %s, want %s", s, got, wrong(class, at))
	}
}

func holds(t *testing.T, s string) {
	t.Helper()
	if got := told(t, s); strings.HasPrefix(got, "class") {
		t.Errorf("P10.2: %q: %s", s, got)
	}
}

// TestLexFaults: they are told ahead of all others, whatever stands ahead of them.
func TestLexFaults(t *testing.T) {
	long := strings.Repeat("n", 21)
	for _, s := range []string{"@!", "SELECT @! FROM t", "foo @'x", "SELECT FROM t @\x00", "SELECT 'a@\x00' FROM t", "DROP TABLE " + long + " @#", "SELECT a FROM t;; @\"", "DELETE @| FROM t"} {
		fails(t, s, api.ErrSyntax)
	}
	for _, s := range []string{strings.Repeat("x", 2001), "DROP TABLE t" + strings.Repeat(" ", 1989), strings.Repeat("!", 2001)} {
		fails(t, "@"+s, api.ErrLimit)
	}
	holds(t, "DROP TABLE t"+strings.Repeat(" ", 1988))
	holds(t, "DROP TABLE t--"+strings.Repeat("!", 1986))
}

func TestSyntax(t *testing.T) {
	for _, s := range []string{
		"@", " @", "@;", "@foo", "@1", "@'SELECT' a FROM t", "@TABLE t", "@( SELECT a FROM t)",
		"CREATE @", "CREATE @t", "CREATE @'TABLE' t (a INT)", "CREATE UNIQUE @TABLE t (a INT)", "CREATE UNIQUE @UNIQUE INDEX i ON t (a)", "CREATE TABLE @(a INT)", "CREATE TABLE t @", "CREATE TABLE t @a INT",
		"CREATE TABLE t (@)", "CREATE TABLE t (@, a INT)", "CREATE TABLE t (@UNIQUE (a))", "CREATE TABLE t (@PRIMARY KEY (a), a INT)", "CREATE TABLE t (a @)", "CREATE TABLE t (a @, b INT)", "CREATE TABLE t (a @foo)", "CREATE TABLE t (a @NULL)", "CREATE TABLE t (a INT @NULL)", "CREATE TABLE t (a INT NOT @)", "CREATE TABLE t (a INT NOT @UNIQUE)", "CREATE TABLE t (a INT PRIMARY @)", "CREATE TABLE t (a INT PRIMARY @UNIQUE)", "CREATE TABLE t (a INT UNIQUE @PRIMARY KEY)", "CREATE TABLE t (a INT UNIQUE @NOT NULL)", "CREATE TABLE t (a INT PRIMARY KEY @NOT NULL)", "CREATE TABLE t (a INT PRIMARY KEY @PRIMARY KEY)", "CREATE TABLE t (a INT NOT NULL @NOT NULL)", "CREATE TABLE t (a INT UNIQUE @UNIQUE)", "CREATE TABLE t (a INT UNIQUE @(a))", "CREATE TABLE t (a INT PRIMARY KEY @(a))",
		"CREATE TABLE t (a INT@", "CREATE TABLE t (a INT,@)", "CREATE TABLE t (a INT, @", "CREATE TABLE t (a INT @b INT)", "CREATE TABLE t (a INT, UNIQUE @a)", "CREATE TABLE t (a INT, UNIQUE @, b INT)", "CREATE TABLE t (a INT, UNIQUE (@))", "CREATE TABLE t (a INT, UNIQUE (a,@))", "CREATE TABLE t (a INT, UNIQUE (a @b))", "CREATE TABLE t (a INT, UNIQUE (a@.b))", "CREATE TABLE t (a INT, PRIMARY @(a))", "CREATE TABLE t (a INT, PRIMARY KEY @a)", "CREATE TABLE t (a INT, UNIQUE @KEY (a))", "CREATE TABLE t (a INT) @)", "CREATE TABLE t (a INT, @NOT NULL)",
		"CREATE INDEX @ON t (a)", "CREATE INDEX i @t (a)", "CREATE INDEX i ON @(a)", "CREATE INDEX i ON t @", "CREATE INDEX i ON t @a", "CREATE INDEX i ON t (@)", "CREATE INDEX i ON t (a @", "CREATE INDEX i ON t (@1)", "CREATE INDEX i ON t (a) @(b)", "CREATE INDEX i ON t (a @DESC)",
		"DROP @", "DROP @t", "DROP @UNIQUE INDEX i", "DROP TABLE @", "DROP TABLE @1", "DROP TABLE t @, u", "DROP INDEX @;", "DROP INDEX i @ON t",
		"INSERT @t VALUES (1)", "INSERT INTO @VALUES (1)", "INSERT INTO t (@1) VALUES (1)", "INSERT INTO t @", "INSERT INTO t (@) VALUES (1)", "INSERT INTO t (a @VALUES (1)", "INSERT INTO t (a) @(1)", "INSERT INTO t (a) @(b) VALUES (1)", "INSERT INTO t VALUES @", "INSERT INTO t VALUES @1", "INSERT INTO t VALUES (@)", "INSERT INTO t VALUES (1@", "INSERT INTO t VALUES (1,@)", "INSERT INTO t VALUES (1) @(2)", "INSERT INTO t VALUES (1), @", "INSERT INTO t VALUES (1), @2", "INSERT INTO t VALUES (@*)", "INSERT INTO t VALUES (1 @2)", "INSERT INTO t VALUES (1) @WHERE a", "INSERT INTO t @SELECT a FROM t", "INSERT INTO t @u VALUES (1)",
		"UPDATE @SET a = 1", "UPDATE t @a = 1", "UPDATE t SET @", "UPDATE t SET a @", "UPDATE t SET a @1", "UPDATE t SET a @> 1", "UPDATE t SET a = @", "UPDATE t SET a = 1 @b = 2", "UPDATE t SET a = 1, @", "UPDATE t SET a = 1, @WHERE b", "UPDATE t SET a = 1 WHERE @", "UPDATE t SET t@.a = 1", "UPDATE t SET a = 1 WHERE b @, c", "UPDATE t SET @(a) = 1", "UPDATE t @u SET a = 1", "UPDATE t SET a = b = c @= d", "UPDATE t SET a = @*",
		"DELETE @t", "DELETE FROM @", "DELETE FROM @WHERE a", "DELETE FROM t @a", "DELETE FROM t WHERE @", "DELETE FROM t WHERE @;", "DELETE FROM t WHERE a @WHERE b", "DELETE FROM t @LIMIT 1", "DELETE FROM t @, u",
		"SELECT @FROM t", "SELECT @", "SELECT DISTINCT @", "SELECT DISTINCT @DISTINCT a FROM t", "SELECT a@", "SELECT a, @FROM t", "SELECT a @b FROM t", "SELECT a AS @", "SELECT a AS @1 FROM t", "SELECT a AS b @c FROM t", "SELECT a AS b @AS c FROM t", "SELECT * @AS a FROM t", "SELECT * @a FROM t", "SELECT * @* FROM t", "SELECT a FROM @", "SELECT a FROM @1", "SELECT a FROM @(t)", "SELECT a FROM t@.u", "SELECT a FROM t @, u", "SELECT a FROM t @AS u", "SELECT a FROM t x @y", "SELECT a FROM t LEFT @x", "SELECT a FROM t LEFT @", "SELECT a FROM t LEFT @LEFT JOIN u ON a", "SELECT a FROM t JOIN @ON a", "SELECT a FROM t JOIN v@", "SELECT a FROM t JOIN v @WHERE a", "SELECT a FROM t JOIN v ON @", "SELECT a FROM t JOIN v ON a @ON b", "SELECT a FROM t @ON a", "SELECT a FROM t JOIN @JOIN v ON a", "SELECT a FROM t WHERE a @JOIN v ON a", "SELECT a FROM t JOIN t ON a JOIN t ON a LEFT @x", "SELECT a FROM t JOIN t ON a JOIN t ON a LEFT@",
		"SELECT a FROM t WHERE @", "SELECT a FROM t WHERE @GROUP BY a", "SELECT a FROM t GROUP @a", "SELECT a FROM t GROUP BY @", "SELECT a FROM t GROUP BY a,@", "SELECT a FROM t GROUP BY @*", "SELECT a FROM t GROUP BY a @DESC", "SELECT a FROM t GROUP BY a @WHERE b", "SELECT a FROM t HAVING @", "SELECT a FROM t HAVING a @GROUP BY a", "SELECT a FROM t ORDER @a", "SELECT a FROM t ORDER BY @", "SELECT a FROM t ORDER BY @DESC", "SELECT a FROM t ORDER BY a DESC @ASC", "SELECT a FROM t ORDER BY a ASC @ASC", "SELECT a FROM t ORDER BY a, @", "SELECT a FROM t ORDER BY a @HAVING a", "SELECT a FROM t ORDER BY a @ORDER BY a", "SELECT a FROM t LIMIT @", "SELECT a FROM t LIMIT @-1", "SELECT a FROM t LIMIT @a", "SELECT a FROM t LIMIT @'1'", "SELECT a FROM t LIMIT @NULL", "SELECT a FROM t LIMIT @(1)", "SELECT a FROM t LIMIT 1 @+ 1", "SELECT a FROM t LIMIT 1 @LIMIT 1", "SELECT a FROM t LIMIT 1 @ORDER BY a", "SELECT a FROM t LIMIT 1@, 2",
		"SELECT a FROM t;@;", "SELECT a FROM t; @a", "DROP TABLE t; @DROP TABLE t",
	} {
		fails(t, s, api.ErrSyntax)
	}
}

func TestSyntaxOfExpressions(t *testing.T) {
	for _, s := range []string{
		"@", "@)", "@,", "@*", "@+ a", "@= a", "@AND a", "@OR a", "@IS NULL", "@IN (1)", "@BETWEEN 1 AND 2", "@ELSE", "@END", "@SET", "@.a", "@INT",
		"a @b", "a @1", "a @'x'", "a @(b)", "a @NULL", "1 @a", "'x' @'y'", "a.b@.c", "a.@", "a.@1", "a.@*", "a.@NULL", "1@.a", "(a)@.b", "NULL@.a",
		"a +@", "a + @+ b", "a * @* b", "a * @NOT b", "a + @NOT b", "a = @NOT b", "- @NOT b", "-@", "- @)", "- @* a", "- 'x' @b", "-1 @1", "-1 @a",
		"a = b @= c", "a < b @> c", "a = b @IS NULL", "a IS NULL @= b", "a IS NULL @IS NULL", "a IN (1) @= b", "a IN (1) @IN (1)", "a BETWEEN 1 AND 2 @BETWEEN 3 AND 4", "a = b @IN (1)", "a = b @BETWEEN 1 AND 2", "a = b @NOT IN (1)", "a IS NULL @+ 1", "a IN (1) @+ 1", "a <> @", "a = @= b", "a = @IS NULL",
		"a IS@", "a IS @a", "a IS @TRUE", "a IS NOT@", "a IS NOT @NOT NULL", "a IS NOT @a", "a IS NOT @IN (1)",
		"a NOT@", "a NOT @b", "a NOT @NULL", "a NOT @NOT IN (1)", "a NOT @= b", "a NOT @IS NULL", "a IN@", "a IN @1", "a IN (@)", "a IN (1@", "a IN (1,@)", "a IN (1 @2)", "a IN (@*)", "a IN @NOT (1)", "a IN (@SELECT a FROM t)",
		"a BETWEEN@", "a BETWEEN 1@", "a BETWEEN 1 @OR 2", "a BETWEEN 1 AND@", "a BETWEEN 1 AND @NOT 2", "a BETWEEN @NOT 1 AND 2", "a BETWEEN 1 @= 1 AND 2", "a BETWEEN 1 AND 2 @= 3", "a BETWEEN @AND 2", "a BETWEEN 1 @, 2", "a BETWEEN b @BETWEEN 1 AND 2 AND 3", "a BETWEEN 1 @IS NULL AND 2",
		"NOT@", "NOT @AND", "NOT @)", "NOT a NOT @b", "a AND @", "a AND @AND b", "a OR @", "a AND @OR b", "a OR b NOT @c",
		"(@", "(@)", "(a@", "(a@, b)", "(a @b)", "((a)@", "(a)@)", "(@*)",
		"CASE@", "CASE @END", "CASE @a WHEN b THEN c END", "CASE @ELSE a END", "CASE WHEN@", "CASE WHEN @THEN a END", "CASE WHEN a@", "CASE WHEN a @END", "CASE WHEN a @WHEN b THEN c END", "CASE WHEN a THEN@", "CASE WHEN a THEN @END", "CASE WHEN a THEN b@", "CASE WHEN a THEN b @THEN c END", "CASE WHEN a THEN b ELSE@", "CASE WHEN a THEN b ELSE @END", "CASE WHEN a THEN b ELSE c@", "CASE WHEN a THEN b ELSE c @ELSE d END", "CASE WHEN a THEN b ELSE c @WHEN d THEN e END", "CASE WHEN a THEN b END @END", "CASE WHEN a THEN b@, c END",
		"COUNT@", "COUNT @a", "COUNT (@)", "COUNT (*@", "COUNT(* @a)", "COUNT(*@, a)", "COUNT(a@, b)", "COUNT(a@", "COUNT(@DISTINCT a)", "SUM(@*)", "MIN(@*)", "MAX(@*)", "SUM(@)", "SUM @a", "MIN(a@, b)", "MAX(a@", "COUNT(*)@.a", "COUNT@.a", "@DISTINCT a",
	} {
		for _, begin := range []string{"DELETE FROM t WHERE ", "SELECT a FROM t GROUP BY b, ", "UPDATE t SET a = b, b = "} {
			fails(t, begin+s, api.ErrSyntax)
		}
	}
}

func TestLimitsOfTokens(t *testing.T) {
	name := strings.Repeat("n", 20)
	for _, s := range []string{"DROP TABLE @#", "DROP INDEX @#", "CREATE TABLE @# (a INT)", "CREATE TABLE t (@# INT)", "CREATE TABLE t (a INT, @# INT)", "CREATE TABLE t (a INT, UNIQUE (@#))", "CREATE TABLE t (a INT, PRIMARY KEY (a, @#))", "CREATE INDEX @# ON t (a)", "CREATE INDEX i ON @# (a)", "CREATE INDEX i ON t (a, @#)", "INSERT INTO @# VALUES (1)", "INSERT INTO t (@#) VALUES (1)", "UPDATE @# SET a = 1", "UPDATE t SET @# = 1", "UPDATE t SET a = 1, @# = 1", "DELETE FROM @#", "DELETE FROM t WHERE @#", "DELETE FROM t WHERE @#.a", "DELETE FROM t WHERE a.@#", "SELECT a AS @# FROM t", "SELECT a FROM @#", "SELECT a FROM t @#", "SELECT a FROM t JOIN @# ON a", "SELECT a FROM t JOIN t @# ON a", "SELECT a FROM t ORDER BY @#"} {
		fails(t, strings.ReplaceAll(s, "#", name+"n"), api.ErrLimit)
		fails(t, strings.ReplaceAll(s, "#", strings.ToUpper(name)+"9"), api.ErrLimit)
		holds(t, strings.ReplaceAll(strings.ReplaceAll(s, "#", name), "@", ""))
	}
	for _, s := range []string{"DELETE FROM t WHERE a = @#", "INSERT INTO t VALUES (1, @#)", "SELECT - @# FROM t"} {
		fails(t, strings.ReplaceAll(s, "#", "'"+strings.Repeat("x", 41)+"'"), api.ErrLimit)
		fails(t, strings.ReplaceAll(s, "#", "'"+strings.Repeat("''", 41)+"'"), api.ErrLimit)
		holds(t, strings.ReplaceAll(strings.ReplaceAll(s, "#", "'"+strings.Repeat("''", 40)+"'"), "@", ""))
	}
	for _, s := range []string{"SELECT @# FROM t", "SELECT a FROM t LIMIT @#", "SELECT a - @# FROM t", "SELECT -(@#) FROM t", "SELECT a FROM t WHERE - a - @# = 1", "INSERT INTO t VALUES (@#)"} {
		for _, n := range []string{"9223372036854775808", "10000000000000000000", "18446744073709551616", "340282366920938463463374607431768211456", strings.Repeat("9", 900)} {
			fails(t, strings.ReplaceAll(s, "#", n), api.ErrLimit)
		}
		holds(t, strings.ReplaceAll(strings.ReplaceAll(s, "#", "9223372036854775807"), "@", ""))
	}
	for _, s := range []string{"SELECT -@# FROM t", "SELECT - @# FROM t", "SELECT - - @# FROM t", "SELECT a - - @# FROM t", "SELECT a * -@# FROM t"} {
		fails(t, strings.ReplaceAll(s, "#", "9223372036854775809"), api.ErrLimit)
		holds(t, strings.ReplaceAll(strings.ReplaceAll(s, "#", "0009223372036854775808"), "@", ""))
	}
}

// TestRows: of each row ten elements hold, the eleventh is too many, told where it begins; unless what stands there can't be.
func TestRows(t *testing.T) {
	for _, c := range []struct {
		before, one, behind string
		with                string // what is between
		strange             string // what can't begin an element
	}{
		{"SELECT ", "a", " FROM t", ", ", "FROM t"},
		{"SELECT ", "a AS b", " FROM t", ", ", ")"},
		{"SELECT DISTINCT ", "*", " FROM t", ", ", ", a"},
		{"SELECT ", "COUNT(*)", " FROM t", ", ", "END"},
		{"SELECT a FROM t GROUP BY ", "NOT a", " LIMIT 1", ", ", "*"},
		{"SELECT a FROM t ORDER BY ", "a DESC", "", ", ", "DESC"},
		{"SELECT a FROM t ORDER BY ", "- a", " LIMIT 1", ", ", ""},
		{"SELECT a FROM t WHERE a IN (", "-1", ")", ", ", ")"},
		{"SELECT a FROM t WHERE a NOT IN (", "(1)", ")", ", ", "*)"},
		{"INSERT INTO t VALUES (", "'x'", ")", ", ", ")"},
		{"INSERT INTO t VALUES (1), (", "1", "), (2)", ", ", ")"},
		{"INSERT INTO t VALUES ", "(1, 2)", "", ", ", "1"},
		{"INSERT INTO t (", "a", ") VALUES (1)", ", ", "1"},
		{"UPDATE t SET ", "a = 1", " WHERE b", ", ", "WHERE b"},
		{"CREATE INDEX i ON t (", "a", ")", ", ", ")"},
		{"CREATE TABLE t (a INT, UNIQUE (", "a", "))", ", ", ")"},
		{"CREATE TABLE t (a INT, PRIMARY KEY (", "a", "), b INT)", ", ", "NULL"},
		{"CREATE TABLE t (", "a INT NOT NULL", ")", ", ", ")"},
		{"CREATE TABLE t (", "a INT", ", UNIQUE (a), PRIMARY KEY (a))", ", ", "NOT"},
		{"CREATE TABLE t (a INT, ", "UNIQUE (a)", ")", ", ", "NULL"},
		{"CREATE TABLE t (a INT, ", "PRIMARY KEY (a)", ", b INT)", ", ", "KEY (a)"},
		{"SELECT CASE ", "WHEN a THEN b", " END FROM t", " ", "THEN b"},
		{"SELECT CASE ", "WHEN a THEN b", " ELSE c END FROM t", " ", "a"},
	} {
		begin := c.before + strings.Repeat(c.one+c.with, 10)
		ten := strings.TrimSuffix(begin, c.with)
		holds(t, ten+c.behind)
		fails(t, begin+"@"+c.one+c.behind, api.ErrLimit)
		fails(t, begin+"@"+c.one+c.with+c.one+c.behind, api.ErrLimit)
		fails(t, begin+"@"+c.one+" nonsense", api.ErrLimit)
		first, _, _ := strings.Cut(c.one, " ")
		fails(t, begin+"@"+first, api.ErrLimit)
		fails(t, begin+"@"+c.strange, api.ErrSyntax)
	}
}

// TestRowsAreCountedEachByItself: ten each, one in the other and one beside the other.
func TestRowsAreCountedEachByItself(t *testing.T) {
	holds(t, "CREATE TABLE t ("+row(10, "a INT")+", "+row(10, "UNIQUE ("+row(10, "b")+")")+")")
	holds(t, "SELECT "+row(10, "a")+" FROM t GROUP BY "+row(10, "a")+" ORDER BY "+row(10, "a"))
	holds(t, "INSERT INTO t ("+row(10, "a")+") VALUES "+row(10, "("+row(10, "1")+")"))
	holds(t, "INSERT INTO t VALUES ("+row(10, "a IN ("+row(10, "1")+")")+")")
	holds(t, "SELECT CASE"+strings.Repeat(" WHEN a IN ("+row(10, "a")+") THEN b", 10)+" ELSE "+"CASE"+strings.Repeat(" WHEN a THEN b", 10)+" END END FROM t")
	fails(t, "SELECT a IN ("+row(9, "1")+", b IN ("+row(10, "2")+", @3)) FROM t", api.ErrLimit)
	fails(t, "SELECT a IN ("+row(9, "1")+", b IN ("+row(10, "2")+"), @3) FROM t", api.ErrLimit)
	// a column's own keys are counted with the others
	holds(t, "CREATE TABLE t ("+row(5, "a INT PRIMARY KEY UNIQUE")+")")
	holds(t, "CREATE TABLE t ("+row(10, "a INT UNIQUE")+")")
	fails(t, "CREATE TABLE t ("+row(5, "a INT PRIMARY KEY UNIQUE")+", a INT @PRIMARY KEY UNIQUE)", api.ErrLimit)
	fails(t, "CREATE TABLE t ("+row(5, "a INT PRIMARY KEY UNIQUE")+", a INT NOT NULL @UNIQUE)", api.ErrLimit)
	fails(t, "CREATE TABLE t ("+row(5, "a INT PRIMARY KEY UNIQUE")+", a INT @PRIMARY foo)", api.ErrLimit)
	fails(t, "CREATE TABLE t ("+row(9, "a INT UNIQUE")+", a INT PRIMARY KEY @UNIQUE)", api.ErrLimit)
	fails(t, "CREATE TABLE t ("+row(10, "a INT UNIQUE")+", @UNIQUE (a))", api.ErrLimit)
	fails(t, "CREATE TABLE t (a INT UNIQUE, "+row(9, "UNIQUE (a)")+", b INT @UNIQUE)", api.ErrLimit)
	fails(t, "CREATE TABLE t ("+row(10, "a INT UNIQUE")+", @a INT UNIQUE)", api.ErrLimit)
	fails(t, "CREATE TABLE t ("+row(10, "a INT")+", UNIQUE (a), @a INT)", api.ErrLimit)
	holds(t, "CREATE TABLE t ("+row(9, "a INT")+", UNIQUE (a), a INT)")
}

func TestSources(t *testing.T) {
	three := "SELECT a FROM t JOIN t ON a LEFT JOIN t u ON a"
	holds(t, three)
	for _, s := range []string{" JOIN @t ON a", " LEFT JOIN @t ON a", " JOIN @t", " JOIN @t WHERE", " JOIN @t u v", " JOIN @" + strings.Repeat("n", 21)} {
		fails(t, three+s, api.ErrLimit)
	}
	for _, s := range []string{" JOIN @", " JOIN @ON a", " LEFT @t", " LEFT JOIN @1", " LEFT @", " JOIN @(t)"} {
		fails(t, three+s, api.ErrSyntax)
	}
}

// TestDepth: thirty are open at most, each until its end.
func TestDepth(t *testing.T) {
	for _, c := range []struct{ open, inside, end string }{
		{"(", "a", ")"}, {"NOT ", "a", ""}, {"- ", "a", ""}, {"CASE WHEN ", "a", " THEN b END"}, {"CASE WHEN a THEN ", "a", " END"}, {"CASE WHEN a THEN b ELSE ", "a", " END"},
		{"(", "a IS NOT NULL", ")"}, {"(", "a NOT BETWEEN 1 AND 2", ")"}, {"(", "-1", ")"}, {"- ", "-1", ""}, {"(", "a - b - c", ")"},
	} {
		n := api.MaxDepth
		begin := "SELECT a FROM t WHERE "
		holds(t, begin+strings.Repeat(c.open, n)+c.inside+strings.Repeat(c.end, n))
		fails(t, begin+strings.Repeat(c.open, n)+"@"+c.open+c.inside+strings.Repeat(c.end, n+1), api.ErrLimit)
		fails(t, begin+strings.Repeat(c.open, n)+"@"+strings.Fields(c.open)[0], api.ErrLimit)
		fails(t, begin+strings.Repeat(c.open, n)+"@)", api.ErrSyntax)
		one := strings.Repeat(c.open, n) + c.inside + strings.Repeat(c.end, n)
		holds(t, begin+one+" AND "+one)
		holds(t, "SELECT "+one+" FROM t ORDER BY "+one)
	}
	deep := strings.Repeat("(", 29)
	shut := strings.Repeat(")", 29)
	for _, s := range []string{"a IN (1)", "a NOT IN (1)", "COUNT(*)", "SUM(a)", "NOT a", "- a", "CASE WHEN a THEN b END", "(a) AND (b) OR NOT c", "- a - - b", "NOT a IS NOT NULL AND NOT a NOT BETWEEN 1 AND 2"} {
		holds(t, "DELETE FROM t WHERE "+deep+s+shut)
	}
	for _, s := range []string{"(a IN @(1))", "(a NOT IN @(1))", "(COUNT@(*))", "(MAX@(a))", "NOT @NOT a", "NOT @(a)", "- @- a", "- @(1)", "NOT -1 + @- a", "- @CASE WHEN a THEN b END", "CASE WHEN @NOT a THEN b END", "CASE WHEN a THEN b ELSE @(c) END", "NOT a IN @(1)", "(a + @(b))", "(NULL = @(b))", "NOT a BETWEEN @(1) AND 2", "NOT a BETWEEN 1 AND @(2)"} {
		fails(t, "DELETE FROM t WHERE "+deep+s+shut, api.ErrLimit)
	}
	// brackets of the statement are open, too
	holds(t, "INSERT INTO t (a) VALUES ("+deep+"1"+shut+"), ("+deep+"1"+shut+")")
	fails(t, "INSERT INTO t (a) VALUES ("+deep+"@(1)"+shut+")", api.ErrLimit)
	fails(t, "INSERT INTO t VALUES (1, "+strings.Repeat("NOT ", 29)+"@NOT a)", api.ErrLimit)
	holds(t, "SELECT a FROM t JOIN t ON ("+deep+"1"+shut+") HAVING ("+deep+"1"+shut+")")
}

// TestMinus: a minus of an int is no operator, and isn't counted; whether it is one the next token tells.
func TestMinus(t *testing.T) {
	thirty := "SELECT " + strings.Repeat("- ", 30)
	holds(t, thirty+"- 1 FROM t")
	holds(t, thirty+"1 FROM t")
	holds(t, thirty+"a - 1 FROM t")
	holds(t, thirty+"a FROM t")
	fails(t, thirty+"@- a FROM t", api.ErrLimit)
	fails(t, thirty+"@- - 1 FROM t", api.ErrLimit)
	fails(t, thirty+"@- )", api.ErrLimit)
	fails(t, thirty+"@-", api.ErrLimit)
	fails(t, thirty+"@- FROM t", api.ErrLimit)
	fails(t, thirty+"- @9223372036854775809 FROM t", api.ErrLimit)
	fails(t, thirty+"@* FROM t", api.ErrSyntax)
	holds(t, thirty+"- 9223372036854775808 FROM t")
}

// TestFirstOfFaults: the fault that is furthest to the left is told, at one token that it can't be there.
func TestFirstOfFaults(t *testing.T) {
	name, number := strings.Repeat("n", 21), "9223372036854775808"
	for _, s := range []string{"SELECT a FROM t @" + number, "SELECT a @" + name + " FROM t", "DELETE FROM @" + number, "DROP TABLE t @" + name, "SELECT a FROM t LIMIT @" + name, "@" + name, "SELECT a FROM t WHERE a = b @= " + name, "SELECT a FROM t WHERE " + strings.Repeat("(", 30) + "a @(", "SELECT " + strings.Repeat("(", 30) + "a = @NOT a", "SELECT a FROM @'" + strings.Repeat("x", 41) + "'"} {
		fails(t, s, api.ErrSyntax)
	}
	for _, s := range []string{"SELECT @" + name + " FROM " + name, "SELECT @" + name + " FROM FROM", "DELETE FROM @" + name + " WHERE WHERE", "SELECT @" + number + " " + number, "SELECT " + row(10, "a") + ", @a a a", "INSERT INTO t VALUES " + row(10, "(1)") + ", @(" + number + ")"} {
		fails(t, s, api.ErrLimit)
	}
}
