package tree_test

import (
	"fmt"
	"reflect"
	"regexp"
	"slices"
	"strings"

	"consistory/api"
)

// A second saying of the chapter: what may be (by names of fields), and how it is written (by texts put together).

// isZero: as zero, a list without elements, too.
func isZero(v reflect.Value) bool {
	switch v.Kind() {
	case reflect.Slice:
		return v.Len() == 0
	case reflect.Struct:
		for i := range v.NumField() {
			if !isZero(v.Field(i)) {
				return false
			}
		}
		return true
	}
	return v.IsZero()
}

// restIsZero: whether all fields of v but those that are named are zero.
func restIsZero(v any, names string) bool {
	r := reflect.ValueOf(v)
	for i := range r.NumField() {
		if !slices.Contains(strings.Fields(names), r.Type().Field(i).Name) && !isZero(r.Field(i)) {
			return false
		}
	}
	return true
}

var nameForm = regexp.MustCompile(`^[a-z_][a-z0-9_]{0,19}$`)

// theWords: those that are no names, as chapter 8 has them.
const theWords = " AND AS ASC BETWEEN BOOL BY CASE COUNT CREATE DELETE DESC DISTINCT DROP ELSE END FALSE FROM GROUP HAVING IN INDEX INSERT INT INTO IS JOIN KEY LEFT LIMIT MAX MIN NOT NULL ON OR ORDER PRIMARY SELECT SET SUM TABLE TEXT THEN TRUE UNIQUE UPDATE VALUES WHEN WHERE "

func isName(s string) bool {
	return nameForm.MatchString(s) && !strings.Contains(theWords, " "+strings.ToUpper(s)+" ")
}

func areNames(l []string, least int) bool {
	return all(l, least, api.MaxItems, isName)
}

func all[T any](l []T, least, most int, holds func(T) bool) bool {
	return len(l) >= least && len(l) <= most && !slices.ContainsFunc(l, func(e T) bool { return !holds(e) })
}

func isValue(v api.Value) bool {
	switch v.Kind {
	case api.Null:
		return v == api.Value{}
	case api.Bool:
		return v.Text == "" && (v.Int == 0 || v.Int == 1)
	case api.Int:
		return v.Text == ""
	case api.Text:
		return v.Int == 0 && len(v.Text) <= 40 && !strings.Contains(v.Text, "\x00")
	}
	return false
}

func modelIsExpr(e api.Expr) bool {
	n := len(e.Args)
	for _, a := range e.Args {
		if !modelIsExpr(a) {
			return false
		}
	}
	switch e.Kind {
	case api.EValue:
		return restIsZero(e, "Kind Value") && isValue(e.Value)
	case api.ECol:
		return restIsZero(e, "Kind Table Name") && isName(e.Name) && (e.Table == "" || isName(e.Table))
	case api.EUnary:
		return restIsZero(e, "Kind Op Args") && n == 1 && strings.Contains(" 1 2 3 4 ", fmt.Sprintf(" %d ", e.Op))
	case api.EBinary:
		return restIsZero(e, "Kind Op Args") && n == 2 && strings.Contains(" 5 6 7 8 9 10 11 12 13 14 15 16 17 18 ", fmt.Sprintf(" %d ", e.Op))
	case api.EIn:
		return restIsZero(e, "Kind Args") && n > 1 && n < 12
	case api.ECase:
		return restIsZero(e, "Kind Args") && n > 1 && n < 22
	case api.EAgg:
		ops := map[int][]int{19: {0, 1}, 20: {1}, 21: {1}, 22: {1}}
		return restIsZero(e, "Kind Op Args") && slices.Contains(ops[e.Op], n)
	}
	return false
}

func noneOrExpr(e api.Expr) bool { return isZero(reflect.ValueOf(e)) || modelIsExpr(e) }

func modelIs(x api.Stmt) bool {
	uses := map[int]string{api.SCreate: "Table KeyCols", api.SIndex: "Index Name Cols Unique", api.SDrop: "Name", api.SUnindex: "Index", api.SInsert: "Name Cols Rows", api.SUpdate: "Name Sets Where", api.SDelete: "Name Where", api.SSelect: "Distinct Items From Where Group Having Order Limit"}
	used, there := uses[x.Kind]
	has := func(field string) bool { return slices.Contains(strings.Fields(used), field) }
	return there && restIsZero(x, "Kind "+used) &&
		(!has("Name") || isName(x.Name)) &&
		(!has("Index") || isName(x.Index)) &&
		(!has("Cols") || areNames(x.Cols, 1) || x.Kind == api.SInsert && len(x.Cols) == 0) &&
		(!has("Table") || modelIsTable(x)) &&
		(!has("Rows") || all(x.Rows, 1, 10, func(l []api.Expr) bool { return all(l, 1, 10, modelIsExpr) })) &&
		(!has("Sets") || all(x.Sets, 1, 10, func(s api.Set) bool { return isName(s.Name) && modelIsExpr(s.Expr) })) &&
		noneOrExpr(x.Where) && noneOrExpr(x.Having) &&
		(!has("Items") || modelIsQuery(x))
}

func modelIsTable(x api.Stmt) bool {
	return isName(x.Table.Name) &&
		all(x.Table.Cols, 1, 10, func(c api.Column) bool { return isName(c.Name) && slices.Contains([]int{1, 2, 3}, c.Type) }) &&
		all(x.Table.Keys, 0, 10, func(k api.Key) bool { return restIsZero(k, "Unique Primary") && k.Unique }) &&
		len(x.KeyCols) == len(x.Table.Keys) && all(x.KeyCols, 0, 10, func(l []string) bool { return areNames(l, 1) })
}

func modelIsQuery(x api.Stmt) bool {
	for i, s := range x.From {
		first := !s.Left && isZero(reflect.ValueOf(s.On))
		if i == 0 && !first || i > 0 && !modelIsExpr(s.On) || !isName(s.Name) || s.Alias != "" && !isName(s.Alias) {
			return false
		}
	}
	return len(x.From) > 0 && len(x.From) < 4 && x.Limit >= -1 &&
		all(x.Items, 1, 10, func(i api.Item) bool {
			return i.Star && restIsZero(i, "Star") || !i.Star && modelIsExpr(i.Expr) && (i.Name == "" || isName(i.Name))
		}) &&
		all(x.Group, 0, 10, modelIsExpr) &&
		all(x.Order, 0, 10, func(o api.Order) bool { return modelIsExpr(o.Expr) })
}

// texts writes each element, with commas between.
func texts[T any](l []T, one func(T) string) string {
	var out []string
	for _, e := range l {
		out = append(out, one(e))
	}
	return strings.Join(out, ", ")
}

func quoted(l []string) string { return "(" + strings.Join(l, ", ") + ")" }

func modelValue(v api.Value) string {
	switch {
	case v.Kind == api.Null:
		return "NULL"
	case v.Kind == api.Bool:
		return strings.ToUpper(fmt.Sprint(v.Int == 1))
	case v.Kind == api.Int:
		return fmt.Sprint(v.Int)
	}
	return "'" + strings.ReplaceAll(v.Text, "'", "''") + "'"
}

func modelExpr(e api.Expr) string {
	bracketed := func(i int) string {
		a := e.Args[i]
		isInt := a.Kind == api.EValue && a.Value.Kind == api.Int
		if a.Kind == api.EUnary || a.Kind == api.EBinary || a.Kind == api.EIn || isInt && a.Value.Int < 0 || isInt && e.Kind == api.EUnary && e.Op == api.ONeg {
			return "(" + modelExpr(a) + ")"
		}
		return modelExpr(a)
	}
	switch e.Kind {
	case api.EValue:
		return modelValue(e.Value)
	case api.ECol:
		return strings.TrimPrefix(e.Table+"."+e.Name, ".")
	case api.EUnary:
		return strings.Replace([]string{"", "- @", "NOT @", "@ IS NULL", "@ IS NOT NULL"}[e.Op], "@", bracketed(0), 1)
	case api.EBinary:
		return bracketed(0) + " " + strings.Fields("= <> < <= > >= + - * / % || AND OR")[e.Op-5] + " " + bracketed(1)
	case api.EIn:
		return bracketed(0) + " IN (" + texts(e.Args[1:], modelExpr) + ")"
	case api.EAgg:
		name := strings.Fields("COUNT SUM MIN MAX")[e.Op-19]
		if len(e.Args) == 0 {
			return name + "(*)"
		}
		return name + "(" + modelExpr(e.Args[0]) + ")"
	}
	s := "CASE"
	for i := range e.Args {
		word := [...]string{" WHEN ", " THEN "}[i%2]
		if i%2 == 0 && i == len(e.Args)-1 {
			word = " ELSE "
		}
		s += word + modelExpr(e.Args[i])
	}
	return s + " END"
}

// given writes a clause, if there is something to write.
func given(words, s string) string {
	if s == "" {
		return ""
	}
	return " " + words + " " + s
}

func maybeExpr(e api.Expr) string {
	if e.Kind == 0 {
		return ""
	}
	return modelExpr(e)
}

func word(is bool, w string) string {
	if is {
		return w
	}
	return ""
}

func modelPrint(x api.Stmt) string {
	switch x.Kind {
	case api.SCreate:
		s := texts(x.Table.Cols, func(c api.Column) string {
			return c.Name + " " + []string{"", "BOOL", "INT", "TEXT"}[c.Type] + word(c.NotNull, " NOT NULL")
		})
		for i, k := range x.Table.Keys {
			s += ", " + word(k.Primary, "PRIMARY KEY ") + word(!k.Primary, "UNIQUE ") + quoted(x.KeyCols[i])
		}
		return "CREATE TABLE " + x.Table.Name + " (" + s + ")"
	case api.SIndex:
		return "CREATE " + word(x.Unique, "UNIQUE ") + "INDEX " + x.Index + " ON " + x.Name + " " + quoted(x.Cols)
	case api.SDrop:
		return "DROP TABLE " + x.Name
	case api.SUnindex:
		return "DROP INDEX " + x.Index
	case api.SInsert:
		return "INSERT INTO " + x.Name + word(len(x.Cols) > 0, " "+quoted(x.Cols)) + " VALUES " +
			texts(x.Rows, func(l []api.Expr) string { return "(" + texts(l, modelExpr) + ")" })
	case api.SUpdate:
		return "UPDATE " + x.Name + " SET " + texts(x.Sets, func(s api.Set) string { return s.Name + " = " + modelExpr(s.Expr) }) + given("WHERE", maybeExpr(x.Where))
	case api.SDelete:
		return "DELETE FROM " + x.Name + given("WHERE", maybeExpr(x.Where))
	}
	s := "SELECT " + word(x.Distinct, "DISTINCT ") + texts(x.Items, func(i api.Item) string {
		return word(i.Star, "*") + maybeExpr(i.Expr) + given("AS", i.Name)
	}) + " FROM"
	for i, f := range x.From {
		s += word(f.Left, " LEFT") + word(i > 0, " JOIN") + " " + f.Name + word(f.Alias != "", " "+f.Alias) + given("ON", maybeExpr(f.On))
	}
	s += given("WHERE", maybeExpr(x.Where)) + given("GROUP BY", texts(x.Group, modelExpr)) + given("HAVING", maybeExpr(x.Having))
	s += given("ORDER BY", texts(x.Order, func(o api.Order) string { return modelExpr(o.Expr) + word(o.Desc, " DESC") }))
	return s + word(x.Limit >= 0, fmt.Sprintf(" LIMIT %d", x.Limit))
}
