package parse_test

import (
	"strings"
)

// theGrammar: the chapter's, a line a way to go on. What begins with # is an action of the model, what begins with : a token that is printed as it is read.
const theGrammar = `
whole -> stmt semicolon end
semicolon ->
semicolon -> ;

stmt -> :CREATE created
created -> :TABLE :name ( column parts #table )
created -> :UNIQUE index
created -> index
index -> :INDEX :name :ON :name ( names #names )
parts ->
parts -> , part parts
part -> column
part -> #key PRIMARY KEY ( names #primary )
part -> #key UNIQUE ( names #unique )
column -> #col name #column type notnull primary unique
type -> INT #addword
type -> TEXT #addword
type -> BOOL #addword
notnull ->
notnull -> NOT #addword NULL #addword
primary ->
primary -> #key PRIMARY KEY #itself #primary
unique ->
unique -> #key UNIQUE #itself #unique
names -> #nonames #row #el name #name othernames #end
othernames ->
othernames -> , #el name #name othernames

stmt -> :DROP dropped
dropped -> :TABLE :name
dropped -> :INDEX :name

stmt -> :INSERT :INTO :name into :VALUES #row #el tuple tuples #end
into ->
into -> ( names #names )
tuples ->
tuples -> :, #el tuple tuples
tuple -> :( es :)
es -> #row #el e #e otheres #end
otheres ->
otheres -> :, #el e #e otheres

stmt -> :UPDATE :name :SET #row #el set sets #end where
set -> :name := e #e
sets ->
sets -> :, #el set sets
where ->
where -> :WHERE e #e

stmt -> :DELETE :FROM :name where

stmt -> :SELECT distinct #row #el item items #end :FROM #source source joins where group having order limit
distinct ->
distinct -> :DISTINCT
item -> :*
item -> e #e as
as ->
as -> :AS :name
items ->
items -> :, #el item items
source -> :name alias
alias ->
alias -> :name
joins ->
joins -> :LEFT :JOIN #source source :ON e #e joins
joins -> :JOIN #source source :ON e #e joins
group ->
group -> :GROUP :BY es
having ->
having -> :HAVING e #e
order ->
order -> :ORDER :BY #row #el key keys #end
key -> e #e way
way ->
way -> ASC
way -> :DESC
keys ->
keys -> :, #el key keys
limit ->
limit -> :LIMIT :int

e -> and ors
ors ->
ors -> OR and #OR ors
and -> not ands
ands ->
ands -> AND not #AND ands
not -> #open NOT not #close #not
not -> test
test -> sum tested
tested ->
tested -> = sum #=
tested -> <> sum #<>
tested -> < sum #<
tested -> <= sum #<=
tested -> > sum #>
tested -> >= sum #>=
tested -> IS isnull
tested -> NOT among #not
tested -> among
isnull -> NULL #isnull
isnull -> NOT NULL #isnotnull
among -> IN ( #row #el e others #in )
among -> BETWEEN sum AND sum #between
others ->
others -> , #el e others
sum -> product sums
sums ->
sums -> + product #+ sums
sums -> - product #- sums
sums -> || product #|| sums
product -> factor products
products ->
products -> * factor #* products
products -> / factor #/ products
products -> % factor #% products
factor -> #minus - factor #minused
factor -> int #int
factor -> text #text
factor -> NULL #word
factor -> TRUE #word
factor -> FALSE #word
factor -> ( e )
factor -> name #word dot
dot ->
dot -> . name #dot
factor -> CASE #row when whens else #case END
when -> #el WHEN e THEN e
whens ->
whens -> when whens
else -> #noelse
else -> ELSE e #else
factor -> COUNT ( counted )
counted -> * #countall
counted -> e #COUNT
factor -> SUM ( e #SUM )
factor -> MIN ( e #MIN )
factor -> MAX ( e #MAX )
`

// grammar: the ways of each part, and by the token that comes next which one is taken.
type grammar struct {
	ways map[string][][]string
	take map[string]map[string][]string
	all  []string // the tokens that there are
}

func isAction(s string) bool { return strings.HasPrefix(s, "#") }

// plainToken tells a token without the mark that it is printed.
func plainToken(s string) string { return strings.TrimPrefix(s, ":") }

// theRules reads the grammar, and makes sure that one token tells how it goes on.
var theRules = func() *grammar {
	g := &grammar{ways: map[string][][]string{}, take: map[string]map[string][]string{}}
	for line := range strings.Lines(theGrammar) {
		if part, way, ok := strings.Cut(strings.TrimSpace(line), " ->"); ok {
			g.ways[part] = append(g.ways[part], strings.Fields(way))
		}
	}
	g.makeTable()
	seen := map[string]bool{}
	for line := range strings.Lines(theGrammar) {
		_, way, _ := strings.Cut(line, " ->")
		for _, s := range strings.Fields(way) {
			if s = plainToken(s); !isAction(s) && g.ways[s] == nil && !seen[s] {
				seen[s] = true
				g.all = append(g.all, s)
			}
		}
	}
	return g
}()

// makeTable works out what may come first in each part and behind it, and of that which way a token tells.
func (g *grammar) makeTable() {
	first, behind, empty := map[string]map[string]bool{}, map[string]map[string]bool{}, map[string]bool{}
	for part := range g.ways {
		first[part], behind[part], g.take[part] = map[string]bool{}, map[string]bool{}, map[string][]string{}
	}
	changed := true
	add := func(to map[string]bool, s string) {
		if !to[s] {
			to[s], changed = true, true
		}
	}
	// begin tells what may come first in what is left of a way, and whether it may be empty.
	begin := func(way []string) (map[string]bool, bool) {
		out := map[string]bool{}
		for _, s := range way {
			s = plainToken(s)
			if isAction(s) {
				continue
			}
			if g.ways[s] == nil {
				out[s] = true
				return out, false
			}
			for f := range first[s] {
				out[f] = true
			}
			if !empty[s] {
				return out, false
			}
		}
		return out, true
	}
	for changed {
		changed = false
		for part, ways := range g.ways {
			for _, way := range ways {
				firsts, none := begin(way)
				for f := range firsts {
					add(first[part], f)
				}
				if none {
					add(empty, part)
				}
				for i, s := range way {
					if g.ways[s] == nil {
						continue
					}
					next, none := begin(way[i+1:])
					for f := range next {
						add(behind[s], f)
					}
					for f := range behind[part] {
						if none {
							add(behind[s], f)
						}
					}
				}
			}
		}
	}
	for part, ways := range g.ways {
		for _, way := range ways {
			firsts, none := begin(way)
			for f := range behind[part] {
				if none {
					firsts[f] = true
				}
			}
			for f := range firsts {
				if _, taken := g.take[part][f]; taken {
					panic("one token doesn't tell how it goes on: " + part + " at " + f)
				}
				g.take[part][f] = append([]string{}, way...)
			}
		}
	}
}
